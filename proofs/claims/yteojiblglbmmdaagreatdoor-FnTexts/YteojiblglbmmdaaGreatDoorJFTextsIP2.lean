/-
  The walks of impl.numberSize, impl.signSize, impl.tokenKind.
-/
import Derived.Test.YteojiblglbmmdaaGreatDoorJFTextsIP
namespace Go.Proofs.YteojiblglbmmdaaGreatDoor
open Go.RowKit

theorem atoi_digit (c : UInt8) (r : List UInt8) (h : isD c.toNat = true) :
    (∀ u, Lib.parseUint10 0 (c :: r) = .ok u → u < 9223372036854775808 → Lib.atoiAll (c :: r) = .ok u) ∧ (∀ u, Lib.parseUint10 0 (c :: r) = .ok u → 9223372036854775808 ≤ u → Lib.atoiAll (c :: r) = .range) ∧ (Lib.parseUint10 0 (c :: r) = .syntax → Lib.atoiAll (c :: r) = .syntax) ∧ (Lib.parseUint10 0 (c :: r) = .range → Lib.atoiAll (c :: r) = .range) := by
  have hd := (isD_iff _).1 h
  have e : Lib.parseMag (if c.toNat = 43 ∨ c.toNat = 45 then r else c :: r) = Lib.parseUint10 0 (c :: r) := by
    rw [if_neg (by omega)]
    unfold Lib.parseMag
    rw [if_neg (by simp)]
  unfold Lib.atoiAll
  simp only
  rw [e]
  refine ⟨fun u hu hl => ?_, fun u hu hl => ?_, fun hu => ?_, fun hu => ?_⟩
  · rw [hu]; simp only; rw [if_neg (by omega), if_neg (by omega), if_neg (by omega)]
  · rw [hu]; simp only; rw [if_pos ⟨by omega, hl⟩]
  · rw [hu]
  · rw [hu]

/-- How Atoi ends at a run that begins with a digit: with a number of at most 99999, or not. -/
theorem atoi_num (l : List UInt8) (hne : ∃ c r, l = c :: r ∧ isD c.toNat = true) :
    (0 ≤ nvl l 0 → ∃ u : Nat, Lib.atoiAll l = .ok (u : Int) ∧ u ≤ 99999) ∧ (nvl l 0 < 0 → (∃ u : Nat, Lib.atoiAll l = .ok (u : Int) ∧ 99999 < u) ∨ Lib.atoiAll l = .syntax ∨ Lib.atoiAll l = .range) := by
  obtain ⟨c, r, rfl, hd⟩ := hne
  have ha := atoi_digit c r hd
  have hn := nvl_pu (c :: r) 0 (by omega)
  constructor
  · intro h
    obtain ⟨u, h1, h2⟩ := hn.1 h
    exact ⟨u, ha.1 u h1 (by omega), h2⟩
  · intro h
    cases e : Lib.parseUint10 0 (c :: r) with
    | ok u =>
      have hu : 99999 < u := by
        rcases Nat.lt_or_ge 99999 u with g | g
        · exact g
        · have := hn.2 ⟨u, e, g⟩; omega
      rcases Nat.lt_or_ge u 9223372036854775808 with g | g
      · exact .inl ⟨u, ha.1 u e g, hu⟩
      · exact .inr (.inr (ha.2.1 u e g))
    | «syntax» => exact .inr (.inl (ha.2.2.1 e))
    | range => exact .inr (.inr (ha.2.2.2 e))

theorem below_bytes (w : World) (t : ByteArray) : Below w.heap.size w (Lib.bytesWorld w 5 t) := ⟨rfl, rfl, rfl, by rw [Lib.bytesWorld_size]; omega, fun j hj => Lib.bytesWorld_at_old w 5 t j hj⟩

/-- What the program makes of a number. -/
def nsz (r : ByteArray) : Nat := if nval r (run r 0) 0 0 < 0 then 0 else run r 0

set_option maxHeartbeats 1000000 in
set_option maxRecDepth 1000000 in
theorem numberSize_any (r : ByteArray) (w : World) (te1 te2 : TypeId) (pe1 pe2 : Value) (hs : r.size ≤ 1048576) (h1 : 1 ≤ r.size) (hd : isD (r.get! 0).toNat = true)
    (hE : w.cell? ⟨4, 0, none⟩ = some (.iface te1 pe1)) (hR : w.cell? ⟨5, 0, none⟩ = some (.iface te2 pe2)) :
    Calls Tryz.prog 52 #[.string r] w fun e w' => e = .returned (.int .i64 (nsz r)) ∧ Below w.heap.size w w' := by
  have HRUN := hide (runSize_any r w hs)
  have hle := run_le r 0 (by omega)
  have hpos : 0 < run r 0 := by
    rcases Nat.eq_zero_or_pos (run r 0) with g | g
    · have := run_end r 0
      rw [g] at this
      exact absurd ⟨by omega, (isR_iff _).2 (.inr hd)⟩ this
    · exact g
  have hz : (r.extract 0 (run r 0)).size = run r 0 := by rw [size_ext2 r 0 _ (by omega)]; omega
  have hlist : (r.extract 0 (run r 0)).data.toList = (r.data.toList.drop 0).take (run r 0) := by rw [Lib.extract_eq]; simp
  have hnv := nvl_nval r (run r 0) 0 0 (by omega)
  rw [← hlist] at hnv
  have hhead : ∃ c t, (r.extract 0 (run r 0)).data.toList = c :: t ∧ isD c.toNat = true := by
    cases e : (r.extract 0 (run r 0)).data.toList with
    | nil => rw [Lib.size_eq, e] at hz; simp at hz; omega
    | cons c t =>
      refine ⟨c, t, rfl, ?_⟩
      have hg := glist (r.extract 0 (run r 0)) 0 (by omega)
      rw [e] at hg
      have hc : c = (r.extract 0 (run r 0)).get! 0 := by simpa using hg
      rw [hc, get!_pre r _ 0 (by omega) hpos]; exact hd
  have hat := atoi_num _ hhead
  rw [hnv] at hat
  have HNS : Hid (nsz r = if nval r (run r 0) 0 0 < 0 then 0 else run r 0) := rfl
  obtain ⟨n, hn⟩ : ∃ n, run r 0 = n := ⟨_, rfl⟩
  rw [hn] at HRUN hle hpos hz hat HNS
  obtain ⟨x, hx⟩ : ∃ x, r.extract 0 n = x := ⟨_, rfl⟩
  rw [hx] at hat hz
  obtain ⟨V, hV⟩ : ∃ V, nval r n 0 0 = V := ⟨_, rfl⟩
  rw [hV] at hat HNS
  have HAT := hide hat
  have HE := hide hE
  have HRG := hide hR
  clear hd hlist hnv hhead hn hV hat hE hR
  have hxs : x.size ≤ 1048576 := by omega
  have HKE : Hid (∀ w1, Below w.heap.size w w1 → w1.cell? ⟨4, 0, none⟩ = some (.iface te1 pe1)) := fun w1 hb => by rw [hb.cell (p := ⟨4, 0, none⟩) (World.block_lt_of_cell? _ _ HE.out)]; exact HE.out
  have HKR : Hid (∀ w1, Below w.heap.size w w1 → w1.cell? ⟨5, 0, none⟩ = some (.iface te2 pe2)) := fun w1 hb => by rw [hb.cell (p := ⟨5, 0, none⟩) (World.block_lt_of_cell? _ _ HRG.out)]; exact HRG.out
  have HERR : Hid (∀ w1, Below w.heap.size w w1 → (Lib.atoiAll x.data.toList = .syntax ∨ Lib.atoiAll x.data.toList = .range) → Calls Tryz.prog 68 #[.string x] w1 fun e w' => (∃ k N, e = .returned (.tuple #[.int .i64 k, .iface 100 (.pointer (some ⟨N, 0, none⟩))])) ∧ Below w1.heap.size w1 w') := fun w1 hb h => by
    rcases h with h | h
    · refine (Tryz.strconv_Atoi_syntax x (by omega) h _ w1 (HKE.out w1 hb) (.inr ⟨te1, pe1, rfl⟩)).mono ?_
      rintro e w' ⟨N, rfl, _, _, hb'⟩
      exact ⟨⟨_, N, rfl⟩, hb'⟩
    · refine (Tryz.strconv_Atoi_range x (by omega) h _ w1 (HKR.out w1 hb) (.inr ⟨te2, pe2, rfl⟩)).mono ?_
      rintro e w' ⟨N, rfl, _, _, hb'⟩
      exact ⟨⟨_, N, rfl⟩, hb'⟩
  have HOK : Hid (∀ (u : Nat) w1, Lib.atoiAll x.data.toList = .ok (u : Int) → Calls Tryz.prog 68 #[.string x] w1 fun e w' => e = .returned (.tuple #[.int .i64 u, .nilIface]) ∧ Below w1.heap.size w1 w') := fun u w1 h => by
    refine (Tryz.strconv_Atoi_ok x (by omega) u h w1).mono ?_
    rintro e w' ⟨rfl, h | ⟨t, h⟩⟩
    · rw [h]; exact ⟨rfl, Below.refl _ _⟩
    · rw [h]; exact ⟨rfl, below_bytes w1 t⟩
  by_cases hneg : V < 0
  · have HNZ : Hid (nsz r = 0) := by show _ = _; rw [HNS.out, if_pos hneg]
    rcases HAT.out.2 hneg with ⟨u, hu, hu2⟩ | herr
    · have t1 : decide ((99999 : Int) < (u : Int)) = true := decide_eq_true (by omega)
      have HU := hide (fun w1 => HOK.out u w1 hu)
      clear hneg hu hu2 HOK HERR HKE HKR HAT HNS
      go_enter Tryz.func52, Tryz.ntmps52
      go_wp2_with fail
      refine HRUN.out.mono ?_
      rintro e w1 ⟨rfl, hb1⟩
      have HB1 := hide hb1
      have HS1 := hide hb1.size
      clear hb1
      go_wp2_with fail
      refine (HU.out _).mono ?_
      rintro e w2 ⟨rfl, hb2⟩
      have HB2 := hide (HB1.out.trans (hb2.mono HS1.out))
      clear hb2
      go_wp2
      go_ret
      exact ⟨by rw [HNZ.out]; rfl, HB2.out⟩
    · have HU := hide (fun w1 hb => HERR.out w1 hb herr)
      clear hneg herr HOK HERR HKE HKR HAT HNS
      go_enter Tryz.func52, Tryz.ntmps52
      go_wp2_with fail
      refine HRUN.out.mono ?_
      rintro e w1 ⟨rfl, hb1⟩
      have HB1 := hide hb1
      have HS1 := hide hb1.size
      clear hb1
      go_wp2_with fail
      refine (HU.out _ HB1.out).mono ?_
      rintro e w2 ⟨⟨k, N, rfl⟩, hb2⟩
      have HB2 := hide (HB1.out.trans (hb2.mono HS1.out))
      clear hb2
      go_wp2
      go_ret
      exact ⟨by rw [HNZ.out]; rfl, HB2.out⟩
  · have HNZ : Hid (nsz r = n) := by show _ = _; rw [HNS.out, if_neg hneg]
    obtain ⟨u, hu, hu2⟩ := HAT.out.1 (by omega)
    have t1 : decide ((99999 : Int) < (u : Int)) = false := decide_eq_false (by omega)
    have HU := hide (fun w1 => HOK.out u w1 hu)
    clear hneg hu HOK HERR HKE HKR HAT HNS
    go_enter Tryz.func52, Tryz.ntmps52
    go_wp2_with fail
    refine HRUN.out.mono ?_
    rintro e w1 ⟨rfl, hb1⟩
    have HB1 := hide hb1
    have HS1 := hide hb1.size
    clear hb1
    go_wp2_with fail
    refine (HU.out _).mono ?_
    rintro e w2 ⟨rfl, hb2⟩
    have HB2 := hide (HB1.out.trans (hb2.mono HS1.out))
    clear hb2
    go_wp2
    go_ret
    exact ⟨by rw [HNZ.out]; rfl, HB2.out⟩

/-- One of the signs of one byte. -/
theorem one_index (c : UInt8) : decide (0 ≤ Lib.indexByte [40, 41, 123, 125, 44, 59, 61, 60, 62, 38, 43, 45, 42, 47, 37, 33] c) = sl1.contains c := (Lib.contains_iff_indexByte sl1 c).symm

set_option maxHeartbeats 2000000 in
set_option maxRecDepth 1000000 in
theorem signSize_two (r : ByteArray) (w : World) (hs : r.size ≤ 1048576) (h2 : 2 ≤ r.size) :
    Calls Tryz.prog 53 #[.string r] w fun e w' => e = .returned (.int .i64 (sg r 0)) ∧ w' = w := by
  have hl2 := list_two r 0 (by omega)
  have hoi := one_index (r.get! 0)
  have hsg : sg r 0 = if sl2.any (fun l => (r.extract 0 (0 + 2)).toList == l) = true then 2 else if sl1.contains (r.get! 0) = true then 1 else 0 := by
    have e : sl2.contains [r.get! 0, r.get! (0 + 1)] = sl2.any (fun l => (r.extract 0 (0 + 2)).toList == l) := by
      rw [hl2, Bool.eq_iff_iff, List.contains_iff_mem, List.any_eq_true]
      constructor
      · intro h; exact ⟨_, h, by simp⟩
      · rintro ⟨l, h1, h2⟩; rw [eq_of_beq h2]; exact h1
    unfold sg
    rw [e]
    by_cases c : sl2.any (fun l => (r.extract 0 (0 + 2)).toList == l) = true
    · rw [if_pos ⟨by omega, c⟩, if_pos c]
    · rw [if_neg (fun g => c g.2), if_neg c]
  have HSG := hide hsg
  have hg0 := Utf8W.get!_of_lt r 0 (by omega)
  obtain ⟨x, hx⟩ : ∃ x, r[0]'(by omega) = x := ⟨_, rfl⟩
  rw [hx] at hg0
  rw [hg0] at hoi HSG
  have hcx : ((x.toNat : Int)).toNat.toUInt8 = x := by simp
  have HIB := fun w => ib_is ⟨#[40, 41, 123, 125, 44, 59, 61, 60, 62, 38, 43, 45, 42, 47, 37, 33]⟩ (x.toNat : Int) (Lib.indexByte [40, 41, 123, 125, 44, 59, 61, 60, 62, 38, 43, 45, 42, 47, 37, 33] x) (by rw [hcx]) w
  obtain ⟨i, hi⟩ : ∃ i, Lib.indexByte [40, 41, 123, 125, 44, 59, 61, 60, 62, 38, 43, 45, 42, 47, 37, 33] x = i := ⟨_, rfl⟩
  rw [hi] at HIB hoi
  have HIB' := hide HIB
  obtain ⟨z, hz⟩ : ∃ z, r.extract 0 2 = z := ⟨_, rfl⟩
  rw [show (0 : Nat) + 2 = 2 from rfl, hz] at HSG
  have HOI := hide hoi
  clear hl2 hoi hsg hg0 hcx HIB hi
  have t0 : decide ((2 : Int) ≤ (r.size : Int)) = true := decide_eq_true (by omega)
  cases hone : sl1.contains x with
  | true =>
    have t1 : decide (0 ≤ i) = true := HOI.out.trans hone
    rw [hone] at HSG
    clear hone HOI
    go_enter Tryz.func53, Tryz.ntmps53
    go_wp2_with (go_at_call 66; refine (HIB'.out _).mono ?_; rintro e w' ⟨rfl, rfl⟩)
    all_goals go_ret
    all_goals refine ⟨ret_int ?_, rfl⟩
    all_goals rw [HSG.out]
    all_goals simp only [sl2, List.any_cons, List.any_nil]
    all_goals simp_all
  | false =>
    have t1 : decide (0 ≤ i) = false := HOI.out.trans hone
    rw [hone] at HSG
    clear hone HOI
    go_enter Tryz.func53, Tryz.ntmps53
    go_wp2_with (go_at_call 66; refine (HIB'.out _).mono ?_; rintro e w' ⟨rfl, rfl⟩)
    all_goals go_ret
    all_goals refine ⟨ret_int ?_, rfl⟩
    all_goals rw [HSG.out]
    all_goals simp only [sl2, List.any_cons, List.any_nil]
    all_goals simp_all
end Go.Proofs.YteojiblglbmmdaaGreatDoor

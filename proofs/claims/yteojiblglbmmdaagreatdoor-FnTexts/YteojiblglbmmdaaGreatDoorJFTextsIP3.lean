/-
  The walks of impl.signSize, impl.tokenKind, impl.pieceSize.
-/
import Derived.Test.YteojiblglbmmdaaGreatDoorJFTextsIP2
import Derived.Test.YteojiblglbmmdaaGreatDoorJFTextsIK
namespace Go.Proofs.YteojiblglbmmdaaGreatDoor
open Go.RowKit

set_option maxHeartbeats 1000000 in
set_option maxRecDepth 1000000 in
theorem signSize_one (r : ByteArray) (w : World) (h1 : r.size = 1) :
    Calls Tryz.prog 53 #[.string r] w fun e w' => e = .returned (.int .i64 (sg r 0)) ∧ w' = w := by
  have hoi := one_index (r.get! 0)
  have hsg : sg r 0 = if sl1.contains (r.get! 0) = true then 1 else 0 := by unfold sg; rw [if_neg (fun g => by omega)]
  have HSG := hide hsg
  have hlt : 0 < r.size := by omega
  have hg0 := Utf8W.get!_of_lt r 0 hlt
  obtain ⟨x, hx⟩ : ∃ x, r[0]'hlt = x := ⟨_, rfl⟩
  rw [hx] at hg0
  rw [hg0] at hoi HSG
  have hcx : ((x.toNat : Int)).toNat.toUInt8 = x := by simp
  have HIB := fun w => ib_is ⟨#[40, 41, 123, 125, 44, 59, 61, 60, 62, 38, 43, 45, 42, 47, 37, 33]⟩ (x.toNat : Int) (Lib.indexByte [40, 41, 123, 125, 44, 59, 61, 60, 62, 38, 43, 45, 42, 47, 37, 33] x) (by rw [hcx]) w
  obtain ⟨i, hi⟩ : ∃ i, Lib.indexByte [40, 41, 123, 125, 44, 59, 61, 60, 62, 38, 43, 45, 42, 47, 37, 33] x = i := ⟨_, rfl⟩
  rw [hi] at HIB hoi
  have HIB' := hide HIB
  have HOI := hide hoi
  have t0 : decide ((2 : Int) ≤ (r.size : Int)) = false := decide_eq_false (by omega)
  clear hoi hsg hg0 hcx HIB hi h1
  cases hone : sl1.contains x with
  | true =>
    have t1 : decide (0 ≤ i) = true := HOI.out.trans hone
    rw [hone] at HSG
    clear hone HOI
    go_enter Tryz.func53, Tryz.ntmps53
    go_wp2_with (go_at_call 66; refine (HIB'.out _).mono ?_; rintro e w' ⟨rfl, rfl⟩)
    go_ret
    exact ⟨by rw [HSG.out]; rfl, rfl⟩
  | false =>
    have t1 : decide (0 ≤ i) = false := HOI.out.trans hone
    rw [hone] at HSG
    clear hone HOI
    go_enter Tryz.func53, Tryz.ntmps53
    go_wp2_with (go_at_call 66; refine (HIB'.out _).mono ?_; rintro e w' ⟨rfl, rfl⟩)
    go_ret
    exact ⟨by rw [HSG.out]; rfl, rfl⟩

theorem signSize_any (r : ByteArray) (w : World) (hs : r.size ≤ 1048576) (h1 : 1 ≤ r.size) :
    Calls Tryz.prog 53 #[.string r] w fun e w' => e = .returned (.int .i64 (sg r 0)) ∧ w' = w := by
  by_cases h : 2 ≤ r.size
  · exact signSize_two r w hs h
  · exact signSize_one r w (by omega)

/-- The kind of a token, by the kind of its piece. -/
def tkd (k : Nat) (x : ByteArray) : Nat := if k = 4 then 3 else if k = 5 then 4 else if k = 6 then 5 else if isW x = true then 2 else 1

set_option maxHeartbeats 1000000 in
set_option maxRecDepth 1000000 in
theorem tokenKind_any (k : Nat) (x : ByteArray) (w : World) (hk : k ≤ 6) :
    Calls Tryz.prog 36 #[.int .i64 k, .string x] w fun e w' => e = .returned (.int .i64 (tkd k x)) ∧ w' = w := by
  have HW := implWord_any x w
  by_cases h4 : k = 4
  · subst h4
    go_enter Tryz.func36, Tryz.ntmps36
    go_wp2
    go_ret
    exact ⟨rfl, rfl⟩
  by_cases h5 : k = 5
  · subst h5
    go_enter Tryz.func36, Tryz.ntmps36
    go_wp2
    go_ret
    exact ⟨rfl, rfl⟩
  by_cases h6 : k = 6
  · subst h6
    go_enter Tryz.func36, Tryz.ntmps36
    go_wp2
    go_ret
    exact ⟨rfl, rfl⟩
  have t4 : ((k : Int) == 4) = false := by rw [beq_eq_false_iff_ne]; omega
  have t5 : ((k : Int) == 5) = false := by rw [beq_eq_false_iff_ne]; omega
  have t6 : ((k : Int) == 6) = false := by rw [beq_eq_false_iff_ne]; omega
  have HT : Hid (tkd k x = if isW x = true then 2 else 1) := by show _ = _; unfold tkd; rw [if_neg h4, if_neg h5, if_neg h6]
  clear h4 h5 h6
  cases hw : isW x with
  | true =>
    rw [hw] at HW HT
    have HW' := hide HW
    clear hw HW
    go_enter Tryz.func36, Tryz.ntmps36
    go_wp2_with (go_at_call 54; refine HW'.out.mono ?_; rintro e w' ⟨rfl, rfl⟩)
    go_ret
    exact ⟨by rw [HT.out]; rfl, rfl⟩
  | false =>
    rw [hw] at HW HT
    have HW' := hide HW
    clear hw HW
    go_enter Tryz.func36, Tryz.ntmps36
    go_wp2_with (go_at_call 54; refine HW'.out.mono ?_; rintro e w' ⟨rfl, rfl⟩)
    go_ret
    exact ⟨by rw [HT.out]; rfl, rfl⟩

/-- How long a piece is, by its kind. -/
def psz (k : Nat) (r : ByteArray) : Nat := if k = 0 then 1 else if k = 1 then 2 + ln r 2 else if k = 2 then bsz (bc r 2 r.size) else if k = 3 then run r 0 else if k = 4 then nsz r else if k = 5 then (litRes r 0).2 else sg r 0

set_option maxHeartbeats 1000000 in
set_option maxRecDepth 1000000 in
theorem pieceSize_any (r : ByteArray) (w : World) (m : Int) (te1 te2 : TypeId) (pe1 pe2 : Value) (hs : r.size ≤ 1048576) (h1 : 1 ≤ r.size) (hok : chk r = (0, 0)) (hT : Lib.Utf8Tabs 1 2 w)
    (hM : w.cell? ⟨0, 0, none⟩ = some (.int .i64 m)) (hE : w.cell? ⟨4, 0, none⟩ = some (.iface te1 pe1)) (hR : w.cell? ⟨5, 0, none⟩ = some (.iface te2 pe2)) :
    Calls Tryz.prog 35 #[.int .i64 (pk r), .string r] w fun e w' => e = .returned (.int .i64 (psz (pk r) r)) ∧ Below w.heap.size w w' := by
  have HSIGN := hide (signSize_any r w hs h1)
  have HLIT := hide (rl_any r w m te1 pe1 hs hok hT hM hE)
  have HRUN := hide (runSize_any r w hs)
  have HNUM := hide (fun hd => numberSize_any r w te1 te2 pe1 pe2 hs h1 hd hE hR)
  have HBLK := hide (fun h2 => block_any r w m hs h2 hM)
  have HLINE := hide (fun h2 => line_any r w hs h2)
  have hpk : (pk r = 0) ∨ (pk r = 1 ∧ 2 ≤ r.size ∧ (r.get! 0).toNat = 47 ∧ (r.get! 1).toNat = 47) ∨ (pk r = 2 ∧ 2 ≤ r.size) ∨ (pk r = 4 ∧ isD (r.get! 0).toNat = true) ∨ pk r = 3 ∨ pk r = 5 ∨ pk r = 6 := by
    unfold pk
    split
    · exact .inl rfl
    split
    · rename_i h; exact .inr (.inl ⟨rfl, h.1, by rw [h.2.1]; rfl, by rw [h.2.2]; rfl⟩)
    split
    · rename_i h; exact .inr (.inr (.inl ⟨rfl, h.1⟩))
    split
    · rename_i h; exact .inr (.inr (.inr (.inl ⟨rfl, h⟩)))
    split
    · exact .inr (.inr (.inr (.inr (.inl rfl))))
    split
    · exact .inr (.inr (.inr (.inr (.inr (.inl rfl)))))
    · exact .inr (.inr (.inr (.inr (.inr (.inr rfl)))))
  clear hok hT hM hE hR
  rcases hpk with e | ⟨e, h2, h0, h1'⟩ | ⟨e, h2⟩ | ⟨e, hd⟩ | e | e | e
  · rw [e]
    show Calls _ _ _ _ fun e w' => e = .returned (.int .i64 ((1 : Nat) : Int)) ∧ _
    clear e
    go_enter Tryz.func35, Tryz.ntmps35
    go_wp2
    go_ret
    exact ⟨rfl, Below.refl _ _⟩
  · rw [e]
    have H := hide (HLINE.out h2 h0 h1')
    show Calls _ _ _ _ fun e w' => e = .returned (.int .i64 ((2 + ln r 2 : Nat) : Int)) ∧ _
    obtain ⟨n, hn⟩ : ∃ n : Nat, 2 + ln r 2 = n := ⟨_, rfl⟩
    rw [hn] at H ⊢
    clear e hn
    go_enter Tryz.func35, Tryz.ntmps35
    go_wp2_with fail
    refine H.out.mono ?_
    rintro e w' ⟨rfl, rfl⟩
    go_wp2
    go_ret
    exact ⟨rfl, Below.refl _ _⟩
  · rw [e]
    have H := hide (HBLK.out h2)
    show Calls _ _ _ _ fun e w' => e = .returned (.int .i64 ((bsz (bc r 2 r.size) : Nat) : Int)) ∧ _
    obtain ⟨n, hn⟩ : ∃ n : Nat, bsz (bc r 2 r.size) = n := ⟨_, rfl⟩
    rw [hn] at H ⊢
    clear e hn
    go_enter Tryz.func35, Tryz.ntmps35
    go_wp2_with fail
    refine H.out.mono ?_
    rintro e w' ⟨rfl, rfl⟩
    go_wp2
    go_ret
    exact ⟨rfl, Below.refl _ _⟩
  · rw [e]
    have H := hide (HNUM.out hd)
    show Calls _ _ _ _ fun e w' => e = .returned (.int .i64 ((nsz r : Nat) : Int)) ∧ _
    obtain ⟨n, hn⟩ : ∃ n : Nat, nsz r = n := ⟨_, rfl⟩
    rw [hn] at H ⊢
    clear e hn hd
    go_enter Tryz.func35, Tryz.ntmps35
    go_wp2_with fail
    refine H.out.mono ?_
    rintro e w1 ⟨rfl, hb⟩
    have HB := hide hb
    clear hb
    go_wp2
    go_ret
    exact ⟨rfl, HB.out⟩
  · rw [e]
    show Calls _ _ _ _ fun e w' => e = .returned (.int .i64 ((run r 0 : Nat) : Int)) ∧ _
    obtain ⟨n, hn⟩ : ∃ n : Nat, run r 0 = n := ⟨_, rfl⟩
    rw [hn] at HRUN ⊢
    clear e hn
    go_enter Tryz.func35, Tryz.ntmps35
    go_wp2_with fail
    refine HRUN.out.mono ?_
    rintro e w1 ⟨rfl, hb⟩
    have HB := hide hb
    clear hb
    go_wp2
    go_ret
    exact ⟨rfl, HB.out⟩
  · rw [e]
    show Calls _ _ _ _ fun e w' => e = .returned (.int .i64 (((litRes r 0).2 : Nat) : Int)) ∧ _
    obtain ⟨n, hn⟩ : ∃ n : Nat, (litRes r 0).2 = n := ⟨_, rfl⟩
    rw [hn] at HLIT ⊢
    clear e hn
    go_enter Tryz.func35, Tryz.ntmps35
    go_wp2_with fail
    refine HLIT.out.mono ?_
    rintro e w1 ⟨v', rfl, ho, hb⟩
    have HB := hide hb
    clear hb ho
    go_wp2
    go_ret
    exact ⟨rfl, HB.out⟩
  · rw [e]
    show Calls _ _ _ _ fun e w' => e = .returned (.int .i64 ((sg r 0 : Nat) : Int)) ∧ _
    obtain ⟨n, hn⟩ : ∃ n : Nat, sg r 0 = n := ⟨_, rfl⟩
    rw [hn] at HSIGN ⊢
    clear e hn
    go_enter Tryz.func35, Tryz.ntmps35
    go_wp2_with fail
    refine HSIGN.out.mono ?_
    rintro e w' ⟨rfl, rfl⟩
    go_wp2
    go_ret
    exact ⟨rfl, Below.refl _ _⟩
end Go.Proofs.YteojiblglbmmdaaGreatDoor

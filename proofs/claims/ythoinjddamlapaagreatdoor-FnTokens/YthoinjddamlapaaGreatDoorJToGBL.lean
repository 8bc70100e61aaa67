/-
  spec.l9block, given what a statement leaves.
-/
import Derived.Test.YthoinjddamlapaaGreatDoorJToGNN
import Derived.Test.YthoinjddamlapaaGreatDoorJToGIN
namespace Go.Proofs.YthoinjddamlapaaGreatDoor
open Go.RowKit

/-- How long a statement may be. -/
def SBd : Nat → Nat
  | 0 => 0
  | m + 1 => 250 + 2 * SBd m
theorem SBd_le : ∀ m, m ≤ 15 → SBd m ≤ 8191750 := by decide
/-- What a statement leaves. -/
def StQ (c : GnC) (e : GE) (vt : Value) (g : GR) (f : Int) (vi : Value) (w : World) (r : Ending) (w' : World) : Prop :=
  ∃ vi', r = .returned (.string g.s) ∧ GnAt w' c e g.i vi' vt g.ints (f - 1) ∧ Gw (GnX c vi) w w' ∧ (vi'.ownBlock = vi.ownBlock ∨ ∀ k, vi'.ownBlock = some k → w.heap.size ≤ k)
/-- What l9stat does, where the fuel is less than m. -/
def StC (m : Nat) : Prop := ∀ (c : GnC) (e : GE) (i : Nat) (vi vt : Value) (ints : List ByteArray) (f : Int) (w : World), GnAt w c e i vi vt ints f → f < m → 0 < m → m ≤ 15 → -100 ≤ f → ints.length + 4 * m ≤ 9000 → Calls Tryz.prog 35 #[.pointer (some ⟨c.G, 0, none⟩)] w (StQ c e vt (gS e m i ints f) f vi w)
/-- The lengths of what statements leave. -/
def StL (e : GE) (m : Nat) : Prop := ∀ i ints f, (∀ x ∈ ints, x.size ≤ 4) → (gS e m i ints f).s.size ≤ SBd m ∧ (∀ x ∈ (gS e m i ints f).ints, x.size ≤ 4) ∧ (gS e m i ints f).ints.length ≤ ints.length + 1
theorem StQ.then {c : GnC} {vi vi' : Value} {a b d : World} (h : Gw (GnX c vi) a b) (k : Gw (GnX c vi') b d) (hv : vi'.ownBlock = vi.ownBlock ∨ ∀ k, vi'.ownBlock = some k → a.heap.size ≤ k) : Gw (GnX c vi) a d :=
  h.trans k (fun j hj q => by
    rcases q with q | q | q
    · exact .inl q
    · exact .inr (.inl q)
    · rcases hv with g | g
      · exact .inr (.inr (g ▸ q))
      · have := g j q; omega)
/-- What l9block leaves. -/
def BlQ (c : GnC) (e : GE) (vt : Value) (s : ByteArray) (i' : Nat) (vi : Value) (w : World) (r : Ending) (w' : World) : Prop :=
  ∃ vi' ints' f', r = .returned (.string s) ∧ GnAt w' c e i' vi' vt ints' f' ∧ Gw (GnX c vi) w w'
theorem gL_le {e : GE} {m : Nat} (hL : StL e m) : ∀ (n : Nat) (o : ByteArray) (i : Nat) (ints : List ByteArray) (f : Int), (∀ x ∈ ints, x.size ≤ 4) → (gL (gS e m) n o i ints f).s.size ≤ o.size + n * SBd m
  | 0, o, _, _, _, _ => by unfold gL; simp
  | n + 1, o, i, ints, f, h => by
    obtain ⟨h1, h2, _⟩ := hL i ints f h
    unfold gL
    have h3 := gL_le hL n (o ++ (gS e m i ints f).s) (gS e m i ints f).i (gS e m i ints f).ints (f - 1) h2
    rw [ByteArray.size_append] at h3
    rw [Nat.succ_mul]
    omega
theorem gB_le {e : GE} {m : Nat} (hL : StL e m) (n i : Nat) (ints : List ByteArray) (f : Int) (h : ∀ x ∈ ints, x.size ≤ 4) : (gB (gS e m) n i ints f).1.size ≤ 4 + n * SBd m := by
  have h1 := gL_le hL n ⟨#[123, 32]⟩ i ints f h
  unfold gB
  simp only [ByteArray.size_append, lsz, List.size_toArray, List.length_cons, List.length_nil] at h1 ⊢
  omega
/-- One statement more. -/
theorem gL_snoc (st : Nat → List ByteArray → Int → GR) : ∀ (n : Nat) (o : ByteArray) (i : Nat) (ints : List ByteArray) (f : Int), gL st (n + 1) o i ints f = ⟨(gL st n o i ints f).s ++ (st (gL st n o i ints f).i (gL st n o i ints f).ints (f - n)).s, (st (gL st n o i ints f).i (gL st n o i ints f).ints (f - n)).i, (st (gL st n o i ints f).i (gL st n o i ints f).ints (f - n)).ints⟩
  | 0, o, i, ints, f => by simp [gL]
  | n + 1, o, i, ints, f => by
    have := gL_snoc st n (o ++ (st i ints f).s) (st i ints f).i (st i ints f).ints (f - 1)
    rw [show f - 1 - (n : Int) = f - ((n + 1 : Nat) : Int) by omega] at this
    rw [gL, this]
    rfl
theorem gL_ints {e : GE} {m : Nat} (hL : StL e m) : ∀ (n : Nat) (o : ByteArray) (i : Nat) (ints : List ByteArray) (f : Int), (∀ x ∈ ints, x.size ≤ 4) → (gL (gS e m) n o i ints f).ints.length ≤ ints.length + n
  | 0, o, _, _, _, _ => by unfold gL; simp
  | n + 1, o, i, ints, f, h => by
    obtain ⟨h1, h2, h3⟩ := hL i ints f h
    unfold gL
    have h4 := gL_ints hL n (o ++ (gS e m i ints f).s) (gS e m i ints f).i (gS e m i ints f).ints (f - 1) h2
    omega
set_option maxHeartbeats 4000000 in
set_option maxRecDepth 1000000 in
theorem block_gn (m : Nat) (hS : StC m) (c : GnC) (e : GE) (hL : StL e m) (n i : Nat) (vi vt : Value) (ints : List ByteArray) (f : Int) (w : World) (h : GnAt w c e i vi vt ints f) (hn : n ≤ 2) (hf : f < m) (hm : 0 < m ∧ m ≤ 15) (hf2 : -50 ≤ f) (hi : ints.length + 4 * m + 3 ≤ 9000) :
    Calls Tryz.prog 33 #[.pointer (some ⟨c.G, 0, none⟩), .int .i64 (n : Nat)] w (BlQ c e vt (gB (gS e m) n i ints f).1 (gB (gS e m) n i ints f).2 vi w) := by
  have HG := hide h
  have HS := hide hS
  have HL := hide hL
  have HNS := hide h.ns
  have hsb := SBd_le m hm.2
  obtain ⟨sb, hsbe⟩ : ∃ x, SBd m = x := ⟨_, rfl⟩
  have HSB := hide hsbe
  rw [hsbe] at hsb
  have HLE : Hid (∀ k, k ≤ n → (gL (gS e m) k ⟨#[123, 32]⟩ i ints f).s.size ≤ 2 + 2 * sb) := fun k hk => by
    have h1 := gL_le hL k ⟨#[123, 32]⟩ i ints f h.ns
    rw [hsbe] at h1
    have h2 : k * sb ≤ 2 * sb := Nat.mul_le_mul_right _ (by omega)
    have h3 : (⟨#[123, 32]⟩ : ByteArray).size = 2 := rfl
    omega
  have HGB : Hid (gB (gS e m) n i ints f = ((gL (gS e m) n ⟨#[123, 32]⟩ i ints f).s ++ ({ data := #[125, 10] } : ByteArray), (gL (gS e m) n ⟨#[123, 32]⟩ i ints f).i)) := rfl
  clear h hS hL hsbe
  go_enter Tryz.func33, Tryz.ntmps33
  go_wp2
  go_loopw [5, 6] (fun os ix wr => ∃ (k : Nat) (vi' : Value), k ≤ n ∧ ix = .int .i64 k ∧ os = .string (gL (gS e m) k ⟨#[123, 32]⟩ i ints f).s ∧ GnAt wr c e (gL (gS e m) k ⟨#[123, 32]⟩ i ints f).i vi' vt (gL (gS e m) k ⟨#[123, 32]⟩ i ints f).ints (f - k) ∧ Gw (GnX c vi) w wr ∧ (vi'.ownBlock = vi.ownBlock ∨ ∀ k, vi'.ownBlock = some k → w.heap.size ≤ k)) (fun _ ix _ => n - (intOf ix).toNat)
  case atStart => exact ⟨0, vi, Nat.zero_le _, rfl, rfl, by have := HG.out; simpa [gL] using this, Gw.refl _ _, .inl rfl⟩
  case round =>
    obtain ⟨k, vi', hk, rfl, rfl, hg, hw, hv⟩ := hrel
    have HG1 := hide hg
    have HW1 := hide hw
    have HV1 := hide hv
    have hsz := HLE.out k hk
    by_cases hlt : k < n
    · have hlti : (k : Int) < (n : Int) := by omega
      have hsz2 := HLE.out (k + 1) (by omega)
      have HIL := hide (gL_ints HL.out k ⟨#[123, 32]⟩ i ints f HNS.out)
      have HST := hide (HS.out c e _ vi' vt _ (f - k) wr hg (by omega) hm.1 hm.2 (by omega) (by have := HIL.out; omega))
      have HSN := hide (gL_snoc (gS e m) k ⟨#[123, 32]⟩ i ints f)
      obtain ⟨q, hq⟩ : ∃ q, gL (gS e m) k ⟨#[123, 32]⟩ i ints f = q := ⟨_, rfl⟩
      rw [hq] at HST HSN hsz
      obtain ⟨t, ht⟩ : ∃ t, gS e m q.i q.ints (f - k) = t := ⟨_, rfl⟩
      rw [ht] at HST HSN
      rw [HSN.out, ByteArray.size_append] at hsz2
      rw [hq]
      obtain ⟨qs, hqs⟩ : ∃ x, q.s = x := ⟨_, rfl⟩
      obtain ⟨ts, hts⟩ : ∃ x, t.s = x := ⟨_, rfl⟩
      have HQS := hide hqs
      have HTS := hide hts
      rw [hqs, hts] at hsz2
      rw [hqs] at hsz ⊢
      have s1 : ¬ 9223372036854775807 < qs.size + ts.size := by omega
      clear hg hw hv hq ht hqs hts
      go_wp2_with fail
      refine HST.out.mono ?_
      rintro r w2 ⟨vi2, rfl, g2, gw2, hv2⟩
      rw [HTS.out]
      have HG2 := hide g2
      have HW2 := hide (StQ.then HW1.out gw2 HV1.out)
      have HV2 : Hid (vi2.ownBlock = vi.ownBlock ∨ ∀ k, vi2.ownBlock = some k → w.heap.size ≤ k) := by
        rcases hv2 with x | x
        · rcases HV1.out with y | y
          · exact .inl (x.trans y)
          · exact .inr (fun k hk => y k (x ▸ hk))
        · exact .inr (fun k hk => Nat.le_trans HW1.out.size (x k hk))
      clear g2 gw2 hv2 HST
      go_wp2
      go_roundw
      case rel =>
        refine ⟨k + 1, vi2, by omega, by go_num, ?_, ?_, HW2.out, HV2.out⟩
        · rw [HSN.out, HQS.out, HTS.out]
        · rw [HSN.out]
          have := HG2.out
          rw [show f - (k : Int) - 1 = f - ((k + 1 : Nat) : Int) by omega] at this
          exact this
      case measure => simp [intOf]; omega
    · obtain rfl : k = n := by omega
      have hge : ¬ (k : Int) < (k : Int) := by omega
      obtain ⟨q, hq⟩ : ∃ q, gL (gS e m) k ⟨#[123, 32]⟩ i ints f = q := ⟨_, rfl⟩
      rw [hq] at HGB hsz HG1 ⊢
      obtain ⟨qs, hqs⟩ : ∃ x, q.s = x := ⟨_, rfl⟩
      rw [hqs] at HGB hsz ⊢
      have s1 : ¬ 9223372036854775807 < qs.size + 2 := by omega
      clear hg hw hv hq hqs hlt
      go_wp2
      go_ret
      rw [HGB.out]
      exact ⟨vi', _, _, rfl, HG1.out, HW1.out⟩
end Go.Proofs.YthoinjddamlapaaGreatDoor

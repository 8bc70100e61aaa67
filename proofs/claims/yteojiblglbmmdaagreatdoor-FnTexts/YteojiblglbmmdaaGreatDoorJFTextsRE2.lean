/-
  What impl.readEscape answers.
-/
import Derived.Test.YteojiblglbmmdaaGreatDoorJFTextsRE
namespace Go.Proofs.YteojiblglbmmdaaGreatDoor
open Go.RowKit

theorem below_dn (w : World) (n : Nat) : Below w.heap.size w (w.drewN n) := ⟨rfl, rfl, rfl, Nat.le_refl _, fun _ _ => rfl⟩
theorem byte_ne {a b : UInt8} (h : a ≠ b) : a.toNat ≠ b.toNat := fun e => h (UInt8.toNat_inj.1 e)

theorem re_any (r : ByteArray) (w : World) (m : Int) (te : TypeId) (pe : Value) (hs : r.size ≤ 1048576) (h1 : 1 ≤ r.size) (h0 : r.get! 0 = 92)
    (hM : w.cell? ⟨0, 0, none⟩ = some (.int .i64 m)) (hE : w.cell? ⟨4, 0, none⟩ = some (.iface te pe)) :
    Calls Tryz.prog 46 #[.string r] w fun e w' => e = .returned (.tuple #[.int .i32 (rch r).1, .int .i64 (rch r).2]) ∧ Below w.heap.size w w' := by
  by_cases hq : 2 ≤ r.size ∧ r.get! 1 = 34
  · have e : rch r = (34, 2) := by
      refine rch_yes (l := [34]) (n := 1) ?_ (by decide) ?_
      · unfold esc; rw [if_neg (by omega), hq.2]; rfl
      · unfold escv; rw [hq.2]; rfl
    rw [e]
    refine (re_quote r w hq.1 h0 hq.2).mono ?_
    rintro e w' ⟨rfl, rfl⟩
    exact ⟨rfl, Below.refl _ _⟩
  by_cases hb : 2 ≤ r.size ∧ r.get! 1 = 92
  · have e : rch r = (92, 2) := by
      refine rch_yes (l := [92]) (n := 1) ?_ (by decide) ?_
      · unfold esc; rw [if_neg (by omega), hb.2]; rfl
      · unfold escv; rw [hb.2]; rfl
    rw [e]
    refine (re_back r w hb.1 h0 hb.2).mono ?_
    rintro e w' ⟨rfl, rfl⟩
    exact ⟨rfl, Below.refl _ _⟩
  have p1 : Lib.hasPrefix r.data.toList [92, 34] = false := by rw [pre_two]; exact decide_eq_false (fun g => hq ⟨g.1, g.2.2⟩)
  have p2 : Lib.hasPrefix r.data.toList [92, 92] = false := by rw [pre_two]; exact decide_eq_false (fun g => hb ⟨g.1, g.2.2⟩)
  have p3 := pre_three r 92 117 123
  have hcp := fun w => Tryz.strings_CutPrefix r ⟨#[92, 117, 123]⟩ w
  have done : ∀ {e w'}, rch r = (0, 0) → (e = Ending.returned (.tuple #[.int .i32 0, .int .i64 0]) ∧ ∃ n, w' = w.drewN n) → e = .returned (.tuple #[.int .i32 (rch r).1, .int .i64 (rch r).2]) ∧ Below w.heap.size w w' := by
    rintro e w' hr ⟨rfl, n, rfl⟩
    rw [hr]
    exact ⟨rfl, below_dn _ n⟩
  by_cases ho : 3 ≤ r.size ∧ r.get! 0 = 92 ∧ r.get! 1 = 117 ∧ r.get! 2 = 123
  · have po : Lib.hasPrefix r.data.toList (⟨#[92, 117, 123]⟩ : ByteArray).data.toList = true := by show Lib.hasPrefix r.data.toList [92, 117, 123] = true; rw [p3]; exact decide_eq_true ho
    have pr := Lib.hasPrefix_raw r ⟨#[92, 117, 123]⟩
    rw [po, Bool.and_eq_true] at pr
    have et := Lib.trimPrefix_hit r ⟨#[92, 117, 123]⟩ (of_decide_eq_true pr.1) pr.2
    rw [et, po] at hcp
    clear et pr po
    have e3 : (⟨#[92, 117, 123]⟩ : ByteArray).size = 3 := rfl
    rw [e3] at hcp
    obtain ⟨t, ht⟩ : ∃ t, r.extract 3 r.size = t := ⟨_, rfl⟩
    have htz : t.size = r.size - 3 := by rw [← ht]; exact size_ext r 3 ho.1
    have htg : ∀ k, t.get! k = r.get! (3 + k) := fun k => by rw [← ht, get!_extract]
    rw [ht] at hcp
    have hct := Tryz.strings_Cut t ⟨#[125]⟩ m w (by omega) hM
    have h117 : (r.get! 1).toNat = 117 := by rw [ho.2.2.1]; rfl
    have h123 : (r.get! (1 + 1)).toNat = 123 := by show (r.get! 2).toNat = 123; rw [ho.2.2.2]; rfl
    rcases cut_one t 125 with ⟨d, hd1, hd2, hd3, hd4, hd5⟩ | ⟨hn1, hn2⟩
    · have hct' : Calls Tryz.prog 63 #[.string t, .string ⟨#[125]⟩] w fun e w' => e = .returned (.tuple #[.string (t.extract 0 d), .string ⟨(Lib.cut t.data.toList [125]).2.1.toArray⟩, .bool true]) ∧ ∃ n, w' = w.drewN n := by
        refine hct.mono ?_
        rintro e w' ⟨rfl, hn⟩
        refine ⟨?_, hn⟩
        show Ending.returned (.tuple #[.string ⟨(Lib.cut t.data.toList [125]).1.toArray⟩, .string ⟨(Lib.cut t.data.toList [125]).2.1.toArray⟩, .bool (Lib.cut t.data.toList [125]).2.2]) = _
        rw [hd4, hd5]
      have hdz : (t.extract 0 d).size = d := by rw [ByteArray.size_extract]; omega
      have hbr := esc_brace (s := r) (i := 1) (d := d) (by omega) h117 h123 (by omega) (by
        have e := htg d
        rw [hd2] at e
        show (r.get! (3 + d)).toNat = 125
        rw [← e]; rfl) (fun j hj => by
        have e := htg j
        show (r.get! (3 + j)).toNat ≠ 125
        rw [← e]; exact byte_ne (b := 125) (hd3 j hj))
      have hhv : hv (t.extract 0 d) 0 d = hv r (1 + 2) d := by
        rw [hv_pre t d (by omega) d (Nat.le_refl _), ← ht, hv_ext]
      by_cases h6 : 6 < d
      · refine (re_none r t (t.extract 0 d) _ true true w p1 p2 hcp hct' (.inr (.inr ⟨rfl, rfl, by omega⟩))).mono ?_
        intro e w' g
        exact done (rch_no (hbr.1 (.inl h6))) g
      · have hkc := kc_is r (1 + 2) d (by omega) (by omega) (by
          have e := htg d
          rw [hd2] at e
          show (r.get! (3 + d)).toNat = 125
          rw [← e]; rfl)
        have hok : decide (kc r (1 + 2) 7 = d ∧ 0 < d) = true ↔ 0 < (t.extract 0 d).size ∧ ∀ j, j < (t.extract 0 d).size → 0 ≤ hd ((t.extract 0 d).get! j).toNat := by
          rw [decide_eq_true_iff, hdz, hkc]
          have gg : ∀ j, j < d → (t.extract 0 d).get! j = r.get! (1 + 2 + j) := fun j hj => by rw [get!_pre t d j (by omega) hj, htg]
          constructor
          · rintro ⟨a, b⟩; exact ⟨b, fun j hj => by rw [gg j hj]; exact a j hj⟩
          · rintro ⟨a, b⟩; exact ⟨fun j hj => by rw [← gg j hj]; exact b j hj, a⟩
        have hlt := hv_lt r (1 + 2) d
        have h16 : 16 ^ d ≤ 16 ^ 6 := Nat.pow_le_pow_right (by omega) (by omega)
        refine (re_some r t (t.extract 0 d) _ (decide (kc r (1 + 2) 7 = d ∧ 0 < d)) (pointB (hv r (1 + 2) d)) (hv r (1 + 2) d) w p1 p2 hcp hct' (by omega) (fun n => ?_) (by omega) (validRune_point _)).mono ?_
        · have hp := parse_any (t.extract 0 d) (w.drewN n) te pe (by omega) (by simpa using hE) _ hok
          rw [hdz, hhv] at hp
          refine hp.mono ?_
          rintro e w' ⟨a, b⟩
          exact ⟨a, (below_dn _ n).trans b⟩
        · rintro e w' ⟨rfl, hb⟩
          refine ⟨?_, hb⟩
          rw [hdz]
          by_cases hk : kc r (1 + 2) 7 = d ∧ 0 < d
          · rw [decide_eq_true hk]
            cases hpb : pointB (hv r (1 + 2) d) with
            | true =>
              have hh := hbr.2 (by omega) hk.1 hk.2 hpb
              rw [rch_yes hh.1 (by omega) hh.2]
              rfl
            | false => rw [rch_no (hbr.1 (.inr (.inr (.inr hpb))))]; rfl
          · rw [decide_eq_false hk]
            have : rch r = (0, 0) := rch_no (hbr.1 (by
              by_cases e : kc r (1 + 2) 7 = d
              · exact .inr (.inr (.inl (by
                  rcases Nat.eq_zero_or_pos d with z | z
                  · exact z
                  · exact absurd ⟨e, z⟩ hk)))
              · exact .inr (.inl e)))
            rw [this]
            cases pointB (hv r (1 + 2) d) <;> rfl
    · have hct' : Calls Tryz.prog 63 #[.string t, .string ⟨#[125]⟩] w fun e w' => e = .returned (.tuple #[.string ⟨(Lib.cut t.data.toList [125]).1.toArray⟩, .string ⟨(Lib.cut t.data.toList [125]).2.1.toArray⟩, .bool false]) ∧ ∃ n, w' = w.drewN n := by
        refine hct.mono ?_
        rintro e w' ⟨rfl, hn⟩
        refine ⟨?_, hn⟩
        show Ending.returned (.tuple #[.string ⟨(Lib.cut t.data.toList [125]).1.toArray⟩, .string ⟨(Lib.cut t.data.toList [125]).2.1.toArray⟩, .bool (Lib.cut t.data.toList [125]).2.2]) = _
        rw [hn2]
      refine (re_none r t _ _ true false w p1 p2 hcp hct' (.inr (.inl ⟨rfl, rfl⟩))).mono ?_
      intro e w' g
      refine done (rch_no (esc_open (fun j hj => ?_) (by omega))) g
      show (r.get! (3 + j)).toNat ≠ 125
      rw [← htg j]
      exact byte_ne (b := 125) (hn1 j (by omega))
  · have po : Lib.hasPrefix r.data.toList (⟨#[92, 117, 123]⟩ : ByteArray).data.toList = false := by show Lib.hasPrefix r.data.toList [92, 117, 123] = false; rw [p3]; exact decide_eq_false ho
    have et := Lib.trimPrefix_miss r ⟨#[92, 117, 123]⟩ (by rw [Lib.hasPrefix_raw]; exact po)
    rw [et, po] at hcp
    have hct := Tryz.strings_Cut r ⟨#[125]⟩ m w (by omega) hM
    refine (re_none r r _ _ false _ w p1 p2 hcp hct (.inl rfl)).mono ?_
    intro e w' g
    refine done (rch_no ?_) g
    unfold esc
    by_cases c1 : r.size ≤ 1
    · rw [if_pos c1]
    · have n34 := byte_ne (b := 34) (fun e => hq ⟨by omega, e⟩)
      have n92 := byte_ne (b := 92) (fun e => hb ⟨by omega, e⟩)
      rw [if_neg c1, if_neg (by rintro (e | e); exact n34 e; exact n92 e), if_pos]
      by_cases c2 : (r.get! 1).toNat = 117
      · by_cases c3 : r.size ≤ 2
        · exact .inr (.inl c3)
        · refine .inr (.inr (byte_ne (b := 123) (fun e => ho ⟨by omega, h0, UInt8.toNat_inj.1 (by rw [c2]; rfl), e⟩)))
      · exact .inl c2
end Go.Proofs.YteojiblglbmmdaaGreatDoor

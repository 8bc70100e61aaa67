/-
  The walks of impl.readCharacter and impl.readLiteral.
-/
import Derived.Test.YteojiblglbmmdaaGreatDoorJFTextsRE2
import Derived.Test.YteojiblglbmmdaaGreatDoorJFTextsQ
namespace Go.Proofs.YteojiblglbmmdaaGreatDoor
open Go.RowKit

/-- What stands at p within a literal: the code point that it stands for and how many bytes it takes; 0 if it is nothing. -/
def rcr (s : ByteArray) (p : Nat) : Nat × Nat := if (s.get! p).toNat = 10 then (0, 0) else if (s.get! p).toNat = 92 then rch (s.extract p s.size) else Utf8.decode s p

theorem uCells (v : Nat) (h : pointB v = true) : cv (ubytes v) = Lib.runeCells (v : Int) := by
  have hp := (pointB_nat v).1 h
  unfold ubytes
  simp only [Lib.runeCells]
  by_cases h1 : v < 128
  · rw [if_pos h1, Lib.encodeRuneZ_one (by omega) (by omega)]; rfl
  rw [if_neg h1]
  by_cases h2 : v < 2048
  · rw [if_pos h2, Lib.encodeRuneZ_two (by omega) (by omega)]
    simp [cv]
  rw [if_neg h2]
  by_cases h3 : v < 65536
  · rw [if_pos h3, Lib.encodeRuneZ_three (by omega)]
    simp [cv]
  · rw [if_neg h3, Lib.encodeRuneZ_four (by omega) (by omega)]
    simp [cv]

/-- One round over a literal: nothing, or a step. -/
theorem rcr_step (s : ByteArray) (p f c : Nat) (acc : List Nat) (hp : p < s.size) (hf : s.size < p + f) (hcf : s.size < p + c) (hok : chkAt s c p = (0, 0)) (hq : (s.get! p).toNat ≠ 34) :
    ((rcr s p).2 = 0 → lit s f p acc = none) ∧ ((rcr s p).2 ≠ 0 → ∃ g c' ys, s.size < p + (rcr s p).2 + g ∧ p + (rcr s p).2 ≤ s.size ∧ lit s f p acc = lit s g (p + (rcr s p).2) (acc ++ ys) ∧ cv ys = Lib.runeCells ((rcr s p).1 : Int) ∧ (rcr s p).1 ≤ 1114111 ∧ s.size < p + (rcr s p).2 + c' ∧ chkAt s c' (p + (rcr s p).2) = (0, 0)) := by
  have hc : (chr s p).1 ≠ 0 := fun e => by rw [chkAt_bad hp hcf e] at hok; cases hok
  obtain ⟨c1, hc1, hstep⟩ := chkAt_good hp hcf hc
  rw [hok] at hstep
  unfold rcr
  by_cases h10 : (s.get! p).toNat = 10
  · rw [if_pos h10]
    exact ⟨fun _ => lit_lf hp h10, fun h => absurd rfl h⟩
  rw [if_neg h10]
  by_cases h92 : (s.get! p).toNat = 92
  · rw [if_pos h92]
    have hl := lit_esc (acc := acc) hf hp h92
    have hx := esc_ext s p 1 (by omega)
    have hv : escv (s.extract p s.size) 1 = escv s (p + 1) := by
      unfold escv
      rw [get!_extract, hv_ext, kc_ext s p (by omega)]
    have hle := esc_le s (p + 1)
    unfold rch
    rw [hx, hv]
    by_cases h0 : (esc s (p + 1)).2 = 0
    · rw [if_pos h0]
      exact ⟨fun _ => hl.1 h0, fun h => absurd rfl h⟩
    · rw [if_neg h0]
      refine ⟨fun h => by simp only at h; omega, fun _ => ?_⟩
      obtain ⟨g, hg, e⟩ := hl.2 h0
      have hev := esc_v s (p + 1) h0
      have hlow := esc_low s (p + 1) h0
      have hin := (hle.2.2 h0).1
      have h92b : bk s p 0 = 92 := h92
      obtain ⟨c', hc', hok'⟩ := chkAt_low s ((esc s (p + 1)).2 + 1) p c (by omega) hcf hok (fun j hj => by
        cases j with
        | zero => rw [Nat.add_zero, h92]; decide
        | succ j => have := hlow j (by omega); rw [show p + (j + 1) = p + 1 + j by omega]; exact this)
      have ee : p + ((esc s (p + 1)).2 + 1) = p + 1 + (esc s (p + 1)).2 := by omega
      simp only
      refine ⟨g, c', (esc s (p + 1)).1, by omega, by omega, by rw [ee]; exact e, by rw [hev.1]; exact uCells _ hev.2, ?_, by omega, hok'⟩
      have := (pointB_nat _).1 hev.2
      omega
  · rw [if_neg h92, chr_dec hc]
    refine ⟨fun h => absurd h hc, fun _ => ?_⟩
    simp only
    by_cases hb : bk s p 0 < 128
    · have ha := chr_ascii s p hb
      obtain ⟨g, hg, e⟩ := lit_byte (acc := acc) hf hp hq h10 h92
      rw [ha] at hstep ⊢
      simp only at hstep ⊢
      refine ⟨g, c1, [(s.get! p).toNat], by omega, by omega, e, ?_, by omega, by omega, hstep.symm⟩
      have e0 : bk s p 0 = (s.get! p).toNat := rfl
      rw [← e0]
      simp only [Lib.runeCells]
      rw [Lib.encodeRuneZ_one (by omega) (by omega)]; rfl
    · obtain ⟨g, ys, h1, h2, h3, h4, h5, h6⟩ := lit_rune s p f acc hp hf hc (by omega)
      exact ⟨g, c1, ys, h1, h6, h2, h3, h5, by omega, hstep.symm⟩

set_option maxHeartbeats 1000000 in
set_option maxRecDepth 1000000 in
theorem rc_any (s : ByteArray) (p : Nat) (w : World) (m : Int) (te : TypeId) (pe : Value) (hs : s.size ≤ 1048576) (hp : p < s.size) (hc : (chr s p).1 ≠ 0)
    (hT : Lib.Utf8Tabs 1 2 w) (hM : w.cell? ⟨0, 0, none⟩ = some (.int .i64 m)) (hE : w.cell? ⟨4, 0, none⟩ = some (.iface te pe)) :
    Calls Tryz.prog 32 #[.string (s.extract p s.size)] w fun e w' => e = .returned (.tuple #[.int .i32 (rcr s p).1, .int .i64 (rcr s p).2]) ∧ Below w.heap.size w w' := by
  have hd0 := Tryz.utf8_DecodeRuneInString (s.extract p s.size) w hT
  rw [decode_extract s p hp, chr_dec hc] at hd0
  have hr0 : (s.extract p s.size).get! 0 = s.get! p := get!_extract s p 0
  have hrz : (s.extract p s.size).size = s.size - p := size_ext s p (by omega)
  have hmax : (chr s p).2 ≤ 1114111 := by
    by_cases hb : bk s p 0 < 128
    · rw [chr_ascii s p hb]; simp only; omega
    · obtain ⟨g, ys, h1, h2, h3, h4, h5, h6⟩ := lit_rune s p (s.size + 1) [] hp (by omega) hc (by omega)
      exact h5
  have hval : (chr s p).2 = (s.get! p).toNat ∨ (128 ≤ (chr s p).2 ∧ 128 ≤ (s.get! p).toNat) := by
    by_cases hb : bk s p 0 < 128
    · rw [chr_ascii s p hb]; exact .inl rfl
    · obtain ⟨g, ys, h1, h2, h3, h4, h5, h6⟩ := lit_rune s p (s.size + 1) [] hp (by omega) hc (by omega)
      exact .inr ⟨h4, by have e : bk s p 0 = (s.get! p).toNat := rfl; omega⟩
  have HRE : Hid (s.get! p = 92 → ∀ w', Below w.heap.size w w' → Calls Tryz.prog 46 #[.string (s.extract p s.size)] w' fun e w'' => e = .returned (.tuple #[.int .i32 (rch (s.extract p s.size)).1, .int .i64 (rch (s.extract p s.size)).2]) ∧ Below w'.heap.size w' w'') := fun h92 w' hb =>
    re_any _ w' m te pe (by omega) (by omega) (by rw [hr0, h92]) (by rw [hb.cell (p := ⟨0, 0, none⟩) (World.block_lt_of_cell? _ _ hM)]; exact hM) (by rw [hb.cell (p := ⟨4, 0, none⟩) (World.block_lt_of_cell? _ _ hE)]; exact hE)
  have HRC : Hid (rcr s p = if (s.get! p).toNat = 10 then (0, 0) else if (s.get! p).toNat = 92 then rch (s.extract p s.size) else ((chr s p).2, (chr s p).1)) := by show _ = _; unfold rcr; rw [chr_dec hc]
  have hn4 := chr_le s p
  obtain ⟨n, v, hnv⟩ : ∃ n v, chr s p = (n, v) := ⟨_, _, rfl⟩
  rw [hnv] at hd0 hmax hval HRC hn4
  simp only at hd0 hmax hval hn4
  have HD := hide hd0
  obtain ⟨r, hr⟩ : ∃ r, s.extract p s.size = r := ⟨_, rfl⟩
  rw [hr] at HD HRE HRC
  rw [hr]
  clear hd0 hnv hc hT hM hE hr hr0 hrz
  have hby := (s.get! p).toNat_lt
  by_cases h10 : v = 10
  · have hb10 : (s.get! p).toNat = 10 := by omega
    have HR : Hid (rcr s p = (0, 0)) := by show _ = _; rw [HRC.out, if_pos hb10]
    have t1 : ((v : Int) == 10) = true := by rw [beq_iff_eq]; omega
    clear h10 hb10 hval HRC
    go_enter Tryz.func32, Tryz.ntmps32
    go_wp2_with fail
    refine HD.out.mono ?_
    rintro e w1 ⟨rfl, hb1⟩
    have HB := hide hb1
    clear hb1
    go_wp2
    go_ret2
    exact ⟨by rw [HR.out]; rfl, HB.out⟩
  · have t1 : ((v : Int) == 10) = false := by rw [beq_eq_false_iff_ne]; omega
    by_cases h92 : v = 92
    · have hb92 : (s.get! p).toNat = 92 := by omega
      have HR : Hid (rcr s p = rch r) := by show _ = _; rw [HRC.out, if_neg (by omega), if_pos hb92]
      have t2 : ((v : Int) == 92) = true := by rw [beq_iff_eq]; omega
      have hre' := HRE.out (UInt8.toNat_inj.1 hb92)
      obtain ⟨a, b, hab⟩ : ∃ a b, rch r = (a, b) := ⟨_, _, rfl⟩
      rw [hab] at hre' HR
      have HRE' := hide hre'
      clear hre' hab
      clear h10 h92 hb92 hval HRC HRE
      go_enter Tryz.func32, Tryz.ntmps32
      go_wp2_with fail
      refine HD.out.mono ?_
      rintro e w1 ⟨rfl, hb1⟩
      have HC := hide (HRE'.out w1 hb1)
      have HB := hide hb1
      have HS := hide hb1.size
      clear hb1
      go_wp2_with fail
      refine HC.out.mono ?_
      rintro e w2 ⟨rfl, hb2⟩
      have HB2 : Hid (Below w.heap.size w w2) := HB.out.trans (hb2.mono HS.out)
      clear hb2
      go_wp2
      go_ret2
      exact ⟨by rw [HR.out]; rfl, HB2.out⟩
    · have t2 : ((v : Int) == 92) = false := by rw [beq_eq_false_iff_ne]; omega
      have HR : Hid (rcr s p = (v, n)) := by show _ = _; rw [HRC.out, if_neg (by omega), if_neg (by omega)]
      clear h10 h92 hval HRC HRE
      go_enter Tryz.func32, Tryz.ntmps32
      go_wp2_with fail
      refine HD.out.mono ?_
      rintro e w1 ⟨rfl, hb1⟩
      have HB := hide hb1
      clear hb1
      go_wp2
      go_ret2
      exact ⟨by rw [HR.out]; rfl, HB.out⟩

set_option maxHeartbeats 1000000 in
set_option maxRecDepth 1000000 in
theorem rl_no (s : ByteArray) (w : World) (hno : ¬ (1 ≤ s.size ∧ s.get! 0 = 34)) :
    Calls Tryz.prog 17 #[.string s] w fun e w' => e = .returned (.tuple #[.slice none 0 0, .int .i64 0]) ∧ w' = w := by
  have H1 := hide (hp_is s ⟨#[34]⟩ false (by rw [show (⟨#[34]⟩ : ByteArray).data.toList = [34] from rfl, pre_one]; exact decide_eq_false hno))
  clear hno
  go_enter Tryz.func17, Tryz.ntmps17
  go_wp2_with fail
  refine (H1.out _).mono ?_
  rintro e w' ⟨rfl, rfl⟩
  go_wp2
  go_ret2
  exact ⟨rfl, rfl⟩

set_option maxHeartbeats 1000000 in
set_option maxRecDepth 1000000 in
theorem rl_yes (s : ByteArray) (w : World) (m : Int) (te : TypeId) (pe : Value) (hs : s.size ≤ 1048576) (h1 : 1 ≤ s.size) (h0 : s.get! 0 = 34) (hok : chk s = (0, 0))
    (hT : Lib.Utf8Tabs 1 2 w) (hM : w.cell? ⟨0, 0, none⟩ = some (.int .i64 m)) (hE : w.cell? ⟨4, 0, none⟩ = some (.iface te pe)) :
    Calls Tryz.prog 17 #[.string s] w fun e w' => ∃ v', e = .returned (.tuple #[v', .int .i64 (litRes s 0).2]) ∧ w'.ownsRow w.heap.size 5 1 v' (litRes s 0).1.length (cv (litRes s 0).1) ∧ Below w.heap.size w w' := by
  have H1 := hide (hp_is s ⟨#[34]⟩ true (by rw [show (⟨#[34]⟩ : ByteArray).data.toList = [34] from rfl, pre_one]; exact decide_eq_true ⟨h1, h0⟩))
  have h34 : (s.get! 0).toNat = 34 := by rw [h0]; rfl
  have HL : Hid (litAt s 0 = lit s (s.size + 1) 1 []) := by
    show _ = _
    unfold litAt; rw [if_neg (by rintro (e | e); omega; exact e h34)]
  obtain ⟨L, hL⟩ : ∃ L, lit s (s.size + 1) 1 [] = L := ⟨_, rfl⟩
  have HLL := hide hL
  have HST : Hid (∃ c, s.size < 1 + c ∧ chkAt s c 1 = (0, 0)) := by
    obtain ⟨c, h2, h3⟩ := chkAt_low s 1 0 (s.size + 1) (by omega) (by omega) hok (fun j hj => by
      have e : j = 0 := by omega
      rw [e, Nat.add_zero, h34]; decide)
    exact ⟨c, by omega, h3⟩
  have HRC : Hid (∀ (p : Nat) (w' : World), p < s.size → (chr s p).1 ≠ 0 → Below w.heap.size w w' → Calls Tryz.prog 32 #[.string (s.extract p s.size)] w' fun e w'' => e = .returned (.tuple #[.int .i32 (rcr s p).1, .int .i64 (rcr s p).2]) ∧ Below w'.heap.size w' w'') := fun p w' hp hc hb =>
    rc_any s p w' m te pe hs hp hc (Utf8Tabs_below hT hb) (by rw [hb.cell (p := ⟨0, 0, none⟩) (World.block_lt_of_cell? _ _ hM)]; exact hM) (by rw [hb.cell (p := ⟨4, 0, none⟩) (World.block_lt_of_cell? _ _ hE)]; exact hE)
  clear h0 h34 hok hT hM hE hL
  go_enter Tryz.func17, Tryz.ntmps17
  go_wp2_with fail
  refine (H1.out _).mono ?_
  rintro e w' ⟨rfl, hw⟩
  subst hw
  go_wp2
  go_loopw [4, 5] (fun out ix wr => ∃ (i f c : Nat) (acc : List Nat), ix = .int .i64 i ∧ 1 ≤ i ∧ i ≤ s.size ∧ s.size < i + f ∧ lit s f i acc = L ∧ s.size < i + c ∧ chkAt s c i = (0, 0) ∧ acc.length ≤ 4 * i ∧ wr.ownsRow w'.heap.size 5 1 out acc.length (cv acc) ∧ Below w'.heap.size w' wr) (fun _ ix _ => s.size - (intOf ix).toNat)
  case atStart =>
    obtain ⟨c, h2, h3⟩ := HST.out
    exact ⟨1, s.size + 1, c, [], by go_num, by omega, by omega, by omega, HLL.out, h2, h3, by simp, World.ownsRow_nil _ _ _ _, Below.refl _ _⟩
  case round =>
    obtain ⟨i, f, c, acc, rfl, h1i, hi, hf, hk, hcf, hck, hal, hown, hbl⟩ := hrel
    have HK := hide hk
    have HCK := hide hck
    have HOWN := hide hown
    have HBL := hide hbl
    have HBs := hide hbl.size
    clear hk hck hown hbl
    by_cases hlt : i < s.size
    · have hgi := Utf8W.get!_of_lt s i hlt
      obtain ⟨x, hx⟩ : ∃ x, s[i]'hlt = x := ⟨_, rfl⟩
      rw [hx] at hgi
      have HG := hide hgi
      have hxl := x.toNat_lt
      have d1 : decide ((i : Int) < (s.size : Int)) = true := decide_eq_true (by omega)
      clear hgi
      by_cases h34 : x.toNat = 34
      · have HR : Hid (litRes s 0 = (acc, i + 1)) := by
          show _ = _
          unfold litRes; rw [HL.out, HLL.out, ← HK.out, lit_quote hf hlt (by rw [HG.out]; exact h34)]; rfl
        have t1 : ((x.toNat : Int) == 34) = true := by rw [beq_iff_eq]; omega
        clear h34
        go_wp2
        go_ret2
        exact ⟨_, by rw [HR.out]; exact ret_vi (by omega), by rw [HR.out]; exact HOWN.out, HBL.out⟩
      · have t1 : ((x.toNat : Int) == 34) = false := by rw [beq_eq_false_iff_ne]; omega
        have hst := rcr_step s i f c acc hlt hf hcf HCK.out (by rw [HG.out]; exact h34)
        have hc : (chr s i).1 ≠ 0 := fun e => by have := HCK.out; rw [chkAt_bad hlt hcf e] at this; cases this
        have hrc := HRC.out i wr hlt hc HBL.out
        obtain ⟨v, n, hvn⟩ : ∃ v n, rcr s i = (v, n) := ⟨_, _, rfl⟩
        rw [hvn] at hst hrc
        simp only at hst hrc
        have HRC' := hide hrc
        have HSTP := hide hst
        clear h34 hst hc hrc hvn
        by_cases hn : n = 0
        · have t2 : ((n : Int) == 0) = true := by rw [beq_iff_eq]; omega
          have HR : Hid (litRes s 0 = ([], 0)) := by
            show _ = _
            unfold litRes; rw [HL.out, HLL.out, ← HK.out, HSTP.out.1 hn]
          clear hn
          go_wp2_with fail
          refine HRC'.out.mono ?_
          rintro e w1 ⟨rfl, hb1⟩
          have HB1 := hide (HBL.out.trans (hb1.mono HBs.out))
          clear hb1
          go_wp2
          go_ret2
          exact ⟨_, by rw [HR.out]; rfl, by rw [HR.out]; exact World.ownsRow_nil _ _ _ _, HB1.out⟩
        · have t2 : ((n : Int) == 0) = false := by rw [beq_eq_false_iff_ne]; omega
          obtain ⟨g, c', ys, q1, q2, q3, q4, q5, q6, q7⟩ := HSTP.out.2 hn
          have HQ3 := hide q3
          have HQ7 := hide q7
          have hys : ys.length ≤ 4 := by
            have h := Lib.runeCells_le (v : Int)
            rw [← q4, cv_length] at h
            exact h.2
          have HQ4 := hide q4
          have hn1 : 1 ≤ n := by omega
          clear hn q3 q4 q7 HSTP
          go_wp2_with fail
          refine HRC'.out.mono ?_
          rintro e w1 ⟨rfl, hb1⟩
          have HB1 := hide (HBL.out.trans (hb1.mono HBs.out))
          have HO1 := hide (kept_below HOWN.out hb1)
          clear hb1
          go_wp2_with fail
          refine (Tryz.utf8_AppendRune_plain w'.heap.size _ acc.length (cv acc) (v : Int) (by omega) (by omega) w1 HO1.out (by omega) HB1.out.size).mono ?_
          rintro e w2 ⟨v', rfl, ho, o, hg⟩
          have HO2 : Hid (w2.ownsRow w'.heap.size 5 1 v' (acc ++ ys).length (cv (acc ++ ys))) := by
            rw [← HQ4.out, ← cv_append, cv_length] at ho
            rw [List.length_append]
            exact ho
          have HB2 : Hid (Below w'.heap.size w' w2) := (HB1.out.alloc HB1.out.size o).grown hg (by have := HB1.out.size; simp; omega) (fun k hk => (HO1.out.lt k hk).1)
          clear ho hg
          have hlen : (acc ++ ys).length = acc.length + ys.length := List.length_append
          go_wp2
          go_roundw
          case rel => exact ⟨i + n, g, c', acc ++ ys, by go_num, by omega, by omega, by omega, by rw [← HQ3.out]; exact HK.out, by omega, HQ7.out, by omega, HO2.out, HB2.out⟩
          case measure => simp [intOf]; omega
    · have d1 : decide ((i : Int) < (s.size : Int)) = false := decide_eq_false (by omega)
      have HR : Hid (litRes s 0 = ([], 0)) := by
        show _ = _
        unfold litRes; rw [HL.out, HLL.out, ← HK.out, lit_end (by omega)]
      go_wp2
      go_ret2
      exact ⟨_, by rw [HR.out]; rfl, by rw [HR.out]; exact World.ownsRow_nil _ _ _ _, HBL.out⟩
theorem chkAt_zero (s : ByteArray) : ∀ f p, (chkAt s f p).1 = 0 → chkAt s f p = (0, 0)
  | 0, _, _ => rfl
  | f + 1, p, h => by
    rw [chkAt] at h ⊢
    by_cases c : p < s.size
    · rw [if_pos c] at h ⊢
      by_cases d : (chr s p).1 = 0
      · rw [if_pos d] at h; simp at h
      · rw [if_neg d] at h ⊢; exact chkAt_zero s f _ h
    · rw [if_neg c]

theorem rl_any (s : ByteArray) (w : World) (m : Int) (te : TypeId) (pe : Value) (hs : s.size ≤ 1048576) (hok : chk s = (0, 0))
    (hT : Lib.Utf8Tabs 1 2 w) (hM : w.cell? ⟨0, 0, none⟩ = some (.int .i64 m)) (hE : w.cell? ⟨4, 0, none⟩ = some (.iface te pe)) :
    Calls Tryz.prog 17 #[.string s] w fun e w' => ∃ v', e = .returned (.tuple #[v', .int .i64 (litRes s 0).2]) ∧ w'.ownsRow w.heap.size 5 1 v' (litRes s 0).1.length (cv (litRes s 0).1) ∧ Below w.heap.size w w' := by
  by_cases h : 1 ≤ s.size ∧ s.get! 0 = 34
  · exact rl_yes s w m te pe hs h.1 h.2 hok hT hM hE
  · have e : litRes s 0 = ([], 0) := by
      unfold litRes litAt
      rw [if_pos]
      by_cases c : s.size ≤ 0
      · exact .inl c
      · exact .inr (byte_ne (b := 34) (fun e => h ⟨by omega, e⟩))
    rw [e]
    refine (rl_no s w h).mono ?_
    rintro e w' ⟨rfl, rfl⟩
    exact ⟨_, rfl, World.ownsRow_nil _ _ _ _, Below.refl _ _⟩
end Go.Proofs.YteojiblglbmmdaaGreatDoor

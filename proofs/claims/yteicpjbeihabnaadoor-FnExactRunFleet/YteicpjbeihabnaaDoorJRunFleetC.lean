/-
  The walks of l1point, l1utf8 and l1char.
-/
import Derived.Test.YteicpjbeihabnaaDoorJRunFleetB0
namespace Go.Proofs.YteicpjbeihabnaaDoor
open Go.RowKit

set_option maxHeartbeats 400000 in
theorem point_any (v : Int) (w : World) :
    Calls Tryd.prog 93 #[.int .i64 v] w fun e w' => e = .returned (.bool (pointB v)) ∧ w' = w := by
  go_enter Tryd.func93, Tryd.ntmps93
  go_wp2
  all_goals go_ret
  all_goals exact ⟨ret_bool (by unfold pointB; rw [Bool.eq_iff_iff]; simp; omega), rfl⟩

set_option maxHeartbeats 400000 in
set_option maxRecDepth 1000000 in
theorem utf8_1 (v : Nat) (w : World) (_i2 : (v : Int) < 128) (_d1 : decide ((v : Int) < 128) = true) :
    Calls Tryd.prog 94 #[.int .i64 v] w fun e w' => e = .returned (.slice (some ⟨w.heap.size, 0, none⟩) 1 1) ∧ w' = w.alloc (.cells #[.int .u8 v] 5) := by
  go_enter Tryd.func94, Tryd.ntmps94
  go_wp2
  go_ret
  exact ⟨rfl, rfl⟩
set_option maxHeartbeats 400000 in
set_option maxRecDepth 1000000 in
theorem utf8_2 (v : Nat) (w : World) (_i1 : (128 : Int) ≤ (v : Int)) (_i2 : (v : Int) < 2048) (_d1 : decide ((v : Int) < 128) = false) (_d2 : decide ((v : Int) < 2048) = true) :
    Calls Tryd.prog 94 #[.int .i64 v] w fun e w' => e = .returned (.slice (some ⟨w.heap.size, 0, none⟩) 2 2) ∧ w' = w.alloc (.cells #[.int .u8 (192 + v / 64), .int .u8 (128 + v % 64)] 5) := by
  go_enter Tryd.func94, Tryd.ntmps94
  go_wp2
  go_ret
  exact ⟨rfl, rfl⟩
set_option maxHeartbeats 400000 in
set_option maxRecDepth 1000000 in
theorem utf8_3 (v : Nat) (w : World) (_i1 : (2048 : Int) ≤ (v : Int)) (_i2 : (v : Int) < 65536) (_d1 : decide ((v : Int) < 128) = false) (_d2 : decide ((v : Int) < 2048) = false) (_d3 : decide ((v : Int) < 65536) = true) :
    Calls Tryd.prog 94 #[.int .i64 v] w fun e w' => e = .returned (.slice (some ⟨w.heap.size, 0, none⟩) 3 3) ∧ w' = w.alloc (.cells #[.int .u8 (224 + v / 4096), .int .u8 (128 + v / 64 % 64), .int .u8 (128 + v % 64)] 5) := by
  go_enter Tryd.func94, Tryd.ntmps94
  go_wp2
  go_ret
  exact ⟨rfl, rfl⟩
set_option maxHeartbeats 400000 in
set_option maxRecDepth 1000000 in
theorem utf8_4 (v : Nat) (w : World) (_i1 : (65536 : Int) ≤ (v : Int)) (_i2 : (v : Int) < 2097152) (_d1 : decide ((v : Int) < 128) = false) (_d2 : decide ((v : Int) < 2048) = false) (_d3 : decide ((v : Int) < 65536) = false) :
    Calls Tryd.prog 94 #[.int .i64 v] w fun e w' => e = .returned (.slice (some ⟨w.heap.size, 0, none⟩) 4 4) ∧ w' = w.alloc (.cells #[.int .u8 (240 + v / 262144), .int .u8 (128 + v / 4096 % 64), .int .u8 (128 + v / 64 % 64), .int .u8 (128 + v % 64)] 5) := by
  go_enter Tryd.func94, Tryd.ntmps94
  go_wp2
  go_ret
  exact ⟨rfl, rfl⟩

theorem utf8_any (v : Nat) (w : World) (hv : v < 2097152) :
    Calls Tryd.prog 94 #[.int .i64 v] w fun e w' => e = .returned (.slice (some ⟨w.heap.size, 0, none⟩) (ulen v) (ulen v)) ∧ w' = w.alloc (.cells ((ubytes v).map (fun n : Nat => Value.int .u8 (n : Int))).toArray 5) := by
  by_cases h1 : v < 128
  · have e1 : ulen v = 1 := by unfold ulen; rw [if_pos h1]
    have e2 : ubytes v = [v] := by unfold ubytes; rw [if_pos h1]
    rw [e1, e2]
    exact utf8_1 v w (by omega) (decide_eq_true (by omega))
  · by_cases h2 : v < 2048
    · have e1 : ulen v = 2 := by unfold ulen; rw [if_neg h1, if_pos h2]
      have e2 : ubytes v = [192 + v / 64, 128 + v % 64] := by unfold ubytes; rw [if_neg h1, if_pos h2]
      rw [e1, e2]
      refine (utf8_2 v w (by omega) (by omega) (decide_eq_false (by omega)) (decide_eq_true (by omega))).mono fun e w' ⟨h, g⟩ => ⟨h, g.trans ?_⟩
      simp
    · by_cases h3 : v < 65536
      · have e1 : ulen v = 3 := by unfold ulen; rw [if_neg h1, if_neg h2, if_pos h3]
        have e2 : ubytes v = [224 + v / 4096, 128 + v / 64 % 64, 128 + v % 64] := by unfold ubytes; rw [if_neg h1, if_neg h2, if_pos h3]
        rw [e1, e2]
        refine (utf8_3 v w (by omega) (by omega) (decide_eq_false (by omega)) (decide_eq_false (by omega)) (decide_eq_true (by omega))).mono fun e w' ⟨h, g⟩ => ⟨h, g.trans ?_⟩
        simp
      · have e1 : ulen v = 4 := by unfold ulen; rw [if_neg h1, if_neg h2, if_neg h3]
        have e2 : ubytes v = [240 + v / 262144, 128 + v / 4096 % 64, 128 + v / 64 % 64, 128 + v % 64] := by unfold ubytes; rw [if_neg h1, if_neg h2, if_neg h3]
        rw [e1, e2]
        refine (utf8_4 v w (by omega) (by omega) (decide_eq_false (by omega)) (decide_eq_false (by omega)) (decide_eq_false (by omega))).mono fun e w' ⟨h, g⟩ => ⟨h, g.trans ?_⟩
        simp
/-- What l1char answers. -/
def chrVal (s : ByteArray) (i : Nat) : Value := .tuple #[.int .i64 ((chr s i).1 : Int), .int .i64 ((chr s i).2 : Int)]
theorem chrVal_of {s : ByteArray} {i a c : Nat} (h : chr s i = (a, c)) : chrVal s i = .tuple #[.int .i64 (a : Int), .int .i64 (c : Int)] := by unfold chrVal; rw [h]

set_option maxHeartbeats 400000 in
set_option maxRecDepth 1000000 in
theorem char_ascii (b off cap i : Nat) (s : ByteArray) (w : World) (_hs : s.size ≤ 1048576) (hi : i < s.size) (hc : w.cell? ⟨b, off + i, none⟩ = some (.int .u8 (bk s i 0 : Int))) (h : (bk s i 0 : Int) < 128) :
    Calls Tryd.prog 91 #[.slice (some ⟨b, off, none⟩) s.size cap, .int .i64 i] w fun e w' => e = .returned (chrVal s i) ∧ Below w.heap.size w w' := by
  rw [chrVal_of (chr_ascii s i (by omega))]
  have hd : decide ((bk s i 0 : Int) < 128) = true := decide_eq_true h
  have h0 : (0 : Int) ≤ (bk s i 0 : Int) := by omega
  go_enter Tryd.func91, Tryd.ntmps91
  go_wp2
  go_ret2
  exact ⟨rfl, Below.refl _ _⟩

set_option maxHeartbeats 400000 in
set_option maxRecDepth 1000000 in
theorem char_none (b off cap i : Nat) (s : ByteArray) (w : World) (_hs : s.size ≤ 1048576) (hi : i < s.size) (hc : w.cell? ⟨b, off + i, none⟩ = some (.int .u8 (bk s i 0 : Int))) (h : 128 ≤ (bk s i 0 : Int)) (h1 : (bk s i 0 : Int) < 192 ∨ 248 ≤ (bk s i 0 : Int)) (h2 : (bk s i 0 : Int) < 256) :
    Calls Tryd.prog 91 #[.slice (some ⟨b, off, none⟩) s.size cap, .int .i64 i] w fun e w' => e = .returned (chrVal s i) ∧ Below w.heap.size w w' := by
  rw [chrVal_of (chr_none s i (by omega) (by omega))]
  rcases h1 with h1 | h1
  all_goals
    go_enter Tryd.func91, Tryd.ntmps91
    go_wp2
    go_ret2
    exact ⟨rfl, Below.refl _ _⟩

set_option maxHeartbeats 400000 in
set_option maxRecDepth 1000000 in
theorem char_short2 (b off cap i : Nat) (s : ByteArray) (w : World) (hs : s.size ≤ 1048576) (hi : i < s.size) (hc : w.cell? ⟨b, off + i, none⟩ = some (.int .u8 (bk s i 0 : Int))) (h : 192 ≤ (bk s i 0 : Int)) (h1 : (bk s i 0 : Int) < 224) (hsh : s.size < i + 2) :
    Calls Tryd.prog 91 #[.slice (some ⟨b, off, none⟩) s.size cap, .int .i64 i] w fun e w' => e = .returned (chrVal s i) ∧ Below w.heap.size w w' := by
  rw [chrVal_of ((chr_two s i hi (by omega) (by omega)).2 (fun g => by have := g.1; omega))]
  go_enter Tryd.func91, Tryd.ntmps91
  go_wp2
  go_ret2
  exact ⟨rfl, Below.refl _ _⟩

set_option maxHeartbeats 1000000 in
set_option maxRecDepth 1000000 in
theorem char_long2 (b off cap i : Nat) (s : ByteArray) (w : World) (hs : s.size ≤ 1048576) (hi : i < s.size) (hc : w.cell? ⟨b, off + i, none⟩ = some (.int .u8 (bk s i 0 : Int))) (h : 192 ≤ (bk s i 0 : Int)) (h1 : (bk s i 0 : Int) < 224) (hsh : i + 2 ≤ s.size)
    (hck : ∀ k, k < 2 → w.cell? ⟨b, off + (i + k), none⟩ = some (.int .u8 (bk s i k : Int))) :
    Calls Tryd.prog 91 #[.slice (some ⟨b, off, none⟩) s.size cap, .int .i64 i] w fun e w' => e = .returned (chrVal s i) ∧ Below w.heap.size w w' := by
  have HC : Hid (_ ∧ _) := chr_two s i hi (by omega) (by omega)
  go_enter Tryd.func91, Tryd.ntmps91
  go_wp2
  go_loop [8, 9] (fun v j => ∃ k : Nat, k + 1 ≤ 2 ∧ j = .int .i64 (k + 1 : Nat) ∧ v = .int .i64 (vacc (bk s i) (bk s i 0 - 192) k) ∧ conts (bk s i) (k + 1)) (fun _ j => 2 - (intOf j).toNat)
  case atStart => exact ⟨0, by omega, rfl, by show Value.int _ _ = Value.int _ _; congr 1; simp only [vacc]; omega, fun j a b => by omega⟩
  case round =>
    obtain ⟨k, hk, rfl, rfl, hct⟩ := hrel
    have HCT : Hid (conts (bk s i) (k + 1)) := hct
    have hv0 := vacc_lt (bk s i) (bk s i 0 - 192) k
    obtain ⟨V, hV⟩ : ∃ V : Nat, vacc (bk s i) (bk s i 0 - 192) k = V := ⟨_, rfl⟩
    rw [hV] at hv0 ⊢
    have HV : Hid (vacc (bk s i) (bk s i 0 - 192) k = V) := hV
    by_cases hlt : k + 1 < 2
    · have v1 : V < 100000 := by
        have e : k = 0 := by omega
        rcases e with rfl <;> omega
      have gk := hck (k + 1) hlt
      have b1 : (bk s i (k + 1) : Int) < 256 ∧ 0 ≤ (bk s i (k + 1) : Int) := by have := bk_lt s i (k + 1); omega
      obtain ⟨D, hD⟩ : ∃ D : Int, (bk s i (k + 1) : Int) = D := ⟨_, rfl⟩
      rw [hD] at gk b1
      have HD : Hid ((bk s i (k + 1) : Int) = D) := hD
      obtain ⟨b1, b0⟩ := b1
      clear hD hV hck hct hv0 hc
      by_cases hb : 128 ≤ D ∧ D < 192
      · obtain ⟨hb1, hb2⟩ := hb
        go_wp2
        go_round
        case rel =>
          refine ⟨k + 1, by omega, by go_num, ?_, conts_step HCT.out (by have := HD.out; omega)⟩
          show Value.int _ _ = Value.int _ _
          congr 1
          rw [vacc, HV.out]
          have := HD.out
          omega
        case measure => simp [intOf]; omega
      · have hbad : chr s i = (0, 0) := HC.out.2 (fun g => hb (by have := g.2.1 (k + 1) (by omega) hlt; have := HD.out; omega))
        have HB : Hid (chr s i = (0, 0)) := hbad
        clear hbad
        by_cases hb2 : D < 128
        · clear hb
          go_wp2
          go_ret2
          exact ⟨by rw [chrVal_of HB.out]; rfl, Below.refl _ _⟩
        · have hb3 : 192 ≤ D := by omega
          clear hb
          go_wp2
          go_ret2
          exact ⟨by rw [chrVal_of HB.out]; rfl, Below.refl _ _⟩
    · have ek : k = 1 := by omega
      have v1 : V < 2097152 := by rw [ek] at hv0; omega
      have HO : Hid ((pointB (V : Int) = true ∧ ulen V = 2 → chr s i = (2, V)) ∧ (¬ (pointB (V : Int) = true ∧ ulen V = 2) → chr s i = (0, 0))) := by
        subst ek
        have g := HC.out
        simp only [okc, Nat.reduceSub, HV.out] at g
        exact ⟨fun q => g.1 ⟨hsh, HCT.out, q.1, q.2⟩, fun q => g.2 (fun r => q r.2.2)⟩
      have HV1 : Hid (V < 2097152) := v1
      clear hV hck hct hv0 hc HC v1
      have HP := fun w => point_any (V : Int) w
      have HU := fun w => utf8_any V w HV1.out
      have hlt' : ¬ ((k : Int) + 1 < 2) := by omega
      have EK : Hid (k = 1) := ek
      clear ek
      generalize hpb : pointB (V : Int) = pb at HP
      generalize hul : ulen V = ul at HU
      have HPB : Hid (pointB (V : Int) = pb) := hpb
      have HUL : Hid (ulen V = ul) := hul
      clear hpb hul
      have HP' : Hid _ := HP
      have HU' : Hid _ := HU
      clear HP HU
      cases pb
      · have HB : Hid (chr s i = (0, 0)) := HO.out.2 (fun q => by rw [HPB.out] at q; exact absurd q.1 (by decide))
        go_wp2_with (go_at_call 93; refine (HP'.out _).mono ?_; rintro e w' ⟨rfl, rfl⟩)
        go_ret2
        exact ⟨by rw [chrVal_of HB.out]; rfl, Below.refl _ _⟩
      · by_cases hu : ul = 2
        · have HB : Hid (chr s i = (2, V)) := HO.out.1 ⟨HPB.out, by rw [HUL.out]; exact hu⟩
          have hub : ((ul : Int) != 2) = false := by rw [bne_eq_false_iff_eq]; omega
          clear hu
          go_wp2_with (first | (go_at_call 93; refine (HP'.out _).mono ?_; rintro e w' ⟨rfl, rfl⟩) | (go_at_call 94; refine (HU'.out _).mono ?_; rintro e w' ⟨rfl, rfl⟩))
          go_ret2
          exact ⟨by rw [chrVal_of HB.out]; rfl, (Below.refl _ _).alloc (Nat.le_refl _) _⟩
        · have HB : Hid (chr s i = (0, 0)) := HO.out.2 (fun q => by rw [HUL.out] at q; exact hu q.2)
          have hub : ((ul : Int) != 2) = true := by rw [bne_iff_ne]; omega
          clear hu
          go_wp2_with (first | (go_at_call 93; refine (HP'.out _).mono ?_; rintro e w' ⟨rfl, rfl⟩) | (go_at_call 94; refine (HU'.out _).mono ?_; rintro e w' ⟨rfl, rfl⟩))
          go_ret2
          exact ⟨by rw [chrVal_of HB.out]; rfl, (Below.refl _ _).alloc (Nat.le_refl _) _⟩

set_option maxHeartbeats 400000 in
set_option maxRecDepth 1000000 in
theorem char_short3 (b off cap i : Nat) (s : ByteArray) (w : World) (hs : s.size ≤ 1048576) (hi : i < s.size) (hc : w.cell? ⟨b, off + i, none⟩ = some (.int .u8 (bk s i 0 : Int))) (h : 224 ≤ (bk s i 0 : Int)) (h1 : (bk s i 0 : Int) < 240) (hsh : s.size < i + 3) :
    Calls Tryd.prog 91 #[.slice (some ⟨b, off, none⟩) s.size cap, .int .i64 i] w fun e w' => e = .returned (chrVal s i) ∧ Below w.heap.size w w' := by
  rw [chrVal_of ((chr_three s i hi (by omega) (by omega)).2 (fun g => by have := g.1; omega))]
  go_enter Tryd.func91, Tryd.ntmps91
  go_wp2
  go_ret2
  exact ⟨rfl, Below.refl _ _⟩

set_option maxHeartbeats 1000000 in
set_option maxRecDepth 1000000 in
theorem char_long3 (b off cap i : Nat) (s : ByteArray) (w : World) (hs : s.size ≤ 1048576) (hi : i < s.size) (hc : w.cell? ⟨b, off + i, none⟩ = some (.int .u8 (bk s i 0 : Int))) (h : 224 ≤ (bk s i 0 : Int)) (h1 : (bk s i 0 : Int) < 240) (hsh : i + 3 ≤ s.size)
    (hck : ∀ k, k < 3 → w.cell? ⟨b, off + (i + k), none⟩ = some (.int .u8 (bk s i k : Int))) :
    Calls Tryd.prog 91 #[.slice (some ⟨b, off, none⟩) s.size cap, .int .i64 i] w fun e w' => e = .returned (chrVal s i) ∧ Below w.heap.size w w' := by
  have HC : Hid (_ ∧ _) := chr_three s i hi (by omega) (by omega)
  go_enter Tryd.func91, Tryd.ntmps91
  go_wp2
  go_loop [8, 9] (fun v j => ∃ k : Nat, k + 1 ≤ 3 ∧ j = .int .i64 (k + 1 : Nat) ∧ v = .int .i64 (vacc (bk s i) (bk s i 0 - 224) k) ∧ conts (bk s i) (k + 1)) (fun _ j => 3 - (intOf j).toNat)
  case atStart => exact ⟨0, by omega, rfl, by show Value.int _ _ = Value.int _ _; congr 1; simp only [vacc]; omega, fun j a b => by omega⟩
  case round =>
    obtain ⟨k, hk, rfl, rfl, hct⟩ := hrel
    have HCT : Hid (conts (bk s i) (k + 1)) := hct
    have hv0 := vacc_lt (bk s i) (bk s i 0 - 224) k
    obtain ⟨V, hV⟩ : ∃ V : Nat, vacc (bk s i) (bk s i 0 - 224) k = V := ⟨_, rfl⟩
    rw [hV] at hv0 ⊢
    have HV : Hid (vacc (bk s i) (bk s i 0 - 224) k = V) := hV
    by_cases hlt : k + 1 < 3
    · have v1 : V < 100000 := by
        have e : k = 0 ∨ k = 1 := by omega
        rcases e with rfl | rfl <;> omega
      have gk := hck (k + 1) hlt
      have b1 : (bk s i (k + 1) : Int) < 256 ∧ 0 ≤ (bk s i (k + 1) : Int) := by have := bk_lt s i (k + 1); omega
      obtain ⟨D, hD⟩ : ∃ D : Int, (bk s i (k + 1) : Int) = D := ⟨_, rfl⟩
      rw [hD] at gk b1
      have HD : Hid ((bk s i (k + 1) : Int) = D) := hD
      obtain ⟨b1, b0⟩ := b1
      clear hD hV hck hct hv0 hc
      by_cases hb : 128 ≤ D ∧ D < 192
      · obtain ⟨hb1, hb2⟩ := hb
        go_wp2
        go_round
        case rel =>
          refine ⟨k + 1, by omega, by go_num, ?_, conts_step HCT.out (by have := HD.out; omega)⟩
          show Value.int _ _ = Value.int _ _
          congr 1
          rw [vacc, HV.out]
          have := HD.out
          omega
        case measure => simp [intOf]; omega
      · have hbad : chr s i = (0, 0) := HC.out.2 (fun g => hb (by have := g.2.1 (k + 1) (by omega) hlt; have := HD.out; omega))
        have HB : Hid (chr s i = (0, 0)) := hbad
        clear hbad
        by_cases hb2 : D < 128
        · clear hb
          go_wp2
          go_ret2
          exact ⟨by rw [chrVal_of HB.out]; rfl, Below.refl _ _⟩
        · have hb3 : 192 ≤ D := by omega
          clear hb
          go_wp2
          go_ret2
          exact ⟨by rw [chrVal_of HB.out]; rfl, Below.refl _ _⟩
    · have ek : k = 2 := by omega
      have v1 : V < 2097152 := by rw [ek] at hv0; omega
      have HO : Hid ((pointB (V : Int) = true ∧ ulen V = 3 → chr s i = (3, V)) ∧ (¬ (pointB (V : Int) = true ∧ ulen V = 3) → chr s i = (0, 0))) := by
        subst ek
        have g := HC.out
        simp only [okc, Nat.reduceSub, HV.out] at g
        exact ⟨fun q => g.1 ⟨hsh, HCT.out, q.1, q.2⟩, fun q => g.2 (fun r => q r.2.2)⟩
      have HV1 : Hid (V < 2097152) := v1
      clear hV hck hct hv0 hc HC v1
      have HP := fun w => point_any (V : Int) w
      have HU := fun w => utf8_any V w HV1.out
      have hlt' : ¬ ((k : Int) + 1 < 3) := by omega
      have EK : Hid (k = 2) := ek
      clear ek
      generalize hpb : pointB (V : Int) = pb at HP
      generalize hul : ulen V = ul at HU
      have HPB : Hid (pointB (V : Int) = pb) := hpb
      have HUL : Hid (ulen V = ul) := hul
      clear hpb hul
      have HP' : Hid _ := HP
      have HU' : Hid _ := HU
      clear HP HU
      cases pb
      · have HB : Hid (chr s i = (0, 0)) := HO.out.2 (fun q => by rw [HPB.out] at q; exact absurd q.1 (by decide))
        go_wp2_with (go_at_call 93; refine (HP'.out _).mono ?_; rintro e w' ⟨rfl, rfl⟩)
        go_ret2
        exact ⟨by rw [chrVal_of HB.out]; rfl, Below.refl _ _⟩
      · by_cases hu : ul = 3
        · have HB : Hid (chr s i = (3, V)) := HO.out.1 ⟨HPB.out, by rw [HUL.out]; exact hu⟩
          have hub : ((ul : Int) != 3) = false := by rw [bne_eq_false_iff_eq]; omega
          clear hu
          go_wp2_with (first | (go_at_call 93; refine (HP'.out _).mono ?_; rintro e w' ⟨rfl, rfl⟩) | (go_at_call 94; refine (HU'.out _).mono ?_; rintro e w' ⟨rfl, rfl⟩))
          go_ret2
          exact ⟨by rw [chrVal_of HB.out]; rfl, (Below.refl _ _).alloc (Nat.le_refl _) _⟩
        · have HB : Hid (chr s i = (0, 0)) := HO.out.2 (fun q => by rw [HUL.out] at q; exact hu q.2)
          have hub : ((ul : Int) != 3) = true := by rw [bne_iff_ne]; omega
          clear hu
          go_wp2_with (first | (go_at_call 93; refine (HP'.out _).mono ?_; rintro e w' ⟨rfl, rfl⟩) | (go_at_call 94; refine (HU'.out _).mono ?_; rintro e w' ⟨rfl, rfl⟩))
          go_ret2
          exact ⟨by rw [chrVal_of HB.out]; rfl, (Below.refl _ _).alloc (Nat.le_refl _) _⟩

set_option maxHeartbeats 400000 in
set_option maxRecDepth 1000000 in
theorem char_short4 (b off cap i : Nat) (s : ByteArray) (w : World) (hs : s.size ≤ 1048576) (hi : i < s.size) (hc : w.cell? ⟨b, off + i, none⟩ = some (.int .u8 (bk s i 0 : Int))) (h : 240 ≤ (bk s i 0 : Int)) (h1 : (bk s i 0 : Int) < 248) (hsh : s.size < i + 4) :
    Calls Tryd.prog 91 #[.slice (some ⟨b, off, none⟩) s.size cap, .int .i64 i] w fun e w' => e = .returned (chrVal s i) ∧ Below w.heap.size w w' := by
  rw [chrVal_of ((chr_four s i hi (by omega) (by omega)).2 (fun g => by have := g.1; omega))]
  go_enter Tryd.func91, Tryd.ntmps91
  go_wp2
  go_ret2
  exact ⟨rfl, Below.refl _ _⟩

set_option maxHeartbeats 1000000 in
set_option maxRecDepth 1000000 in
theorem char_long4 (b off cap i : Nat) (s : ByteArray) (w : World) (hs : s.size ≤ 1048576) (hi : i < s.size) (hc : w.cell? ⟨b, off + i, none⟩ = some (.int .u8 (bk s i 0 : Int))) (h : 240 ≤ (bk s i 0 : Int)) (h1 : (bk s i 0 : Int) < 248) (hsh : i + 4 ≤ s.size)
    (hck : ∀ k, k < 4 → w.cell? ⟨b, off + (i + k), none⟩ = some (.int .u8 (bk s i k : Int))) :
    Calls Tryd.prog 91 #[.slice (some ⟨b, off, none⟩) s.size cap, .int .i64 i] w fun e w' => e = .returned (chrVal s i) ∧ Below w.heap.size w w' := by
  have HC : Hid (_ ∧ _) := chr_four s i hi (by omega) (by omega)
  go_enter Tryd.func91, Tryd.ntmps91
  go_wp2
  go_loop [8, 9] (fun v j => ∃ k : Nat, k + 1 ≤ 4 ∧ j = .int .i64 (k + 1 : Nat) ∧ v = .int .i64 (vacc (bk s i) (bk s i 0 - 240) k) ∧ conts (bk s i) (k + 1)) (fun _ j => 4 - (intOf j).toNat)
  case atStart => exact ⟨0, by omega, rfl, by show Value.int _ _ = Value.int _ _; congr 1; simp only [vacc]; omega, fun j a b => by omega⟩
  case round =>
    obtain ⟨k, hk, rfl, rfl, hct⟩ := hrel
    have HCT : Hid (conts (bk s i) (k + 1)) := hct
    have hv0 := vacc_lt (bk s i) (bk s i 0 - 240) k
    obtain ⟨V, hV⟩ : ∃ V : Nat, vacc (bk s i) (bk s i 0 - 240) k = V := ⟨_, rfl⟩
    rw [hV] at hv0 ⊢
    have HV : Hid (vacc (bk s i) (bk s i 0 - 240) k = V) := hV
    by_cases hlt : k + 1 < 4
    · have v1 : V < 100000 := by
        have e : k = 0 ∨ k = 1 ∨ k = 2 := by omega
        rcases e with rfl | rfl | rfl <;> omega
      have gk := hck (k + 1) hlt
      have b1 : (bk s i (k + 1) : Int) < 256 ∧ 0 ≤ (bk s i (k + 1) : Int) := by have := bk_lt s i (k + 1); omega
      obtain ⟨D, hD⟩ : ∃ D : Int, (bk s i (k + 1) : Int) = D := ⟨_, rfl⟩
      rw [hD] at gk b1
      have HD : Hid ((bk s i (k + 1) : Int) = D) := hD
      obtain ⟨b1, b0⟩ := b1
      clear hD hV hck hct hv0 hc
      by_cases hb : 128 ≤ D ∧ D < 192
      · obtain ⟨hb1, hb2⟩ := hb
        go_wp2
        go_round
        case rel =>
          refine ⟨k + 1, by omega, by go_num, ?_, conts_step HCT.out (by have := HD.out; omega)⟩
          show Value.int _ _ = Value.int _ _
          congr 1
          rw [vacc, HV.out]
          have := HD.out
          omega
        case measure => simp [intOf]; omega
      · have hbad : chr s i = (0, 0) := HC.out.2 (fun g => hb (by have := g.2.1 (k + 1) (by omega) hlt; have := HD.out; omega))
        have HB : Hid (chr s i = (0, 0)) := hbad
        clear hbad
        by_cases hb2 : D < 128
        · clear hb
          go_wp2
          go_ret2
          exact ⟨by rw [chrVal_of HB.out]; rfl, Below.refl _ _⟩
        · have hb3 : 192 ≤ D := by omega
          clear hb
          go_wp2
          go_ret2
          exact ⟨by rw [chrVal_of HB.out]; rfl, Below.refl _ _⟩
    · have ek : k = 3 := by omega
      have v1 : V < 2097152 := by rw [ek] at hv0; omega
      have HO : Hid ((pointB (V : Int) = true ∧ ulen V = 4 → chr s i = (4, V)) ∧ (¬ (pointB (V : Int) = true ∧ ulen V = 4) → chr s i = (0, 0))) := by
        subst ek
        have g := HC.out
        simp only [okc, Nat.reduceSub, HV.out] at g
        exact ⟨fun q => g.1 ⟨hsh, HCT.out, q.1, q.2⟩, fun q => g.2 (fun r => q r.2.2)⟩
      have HV1 : Hid (V < 2097152) := v1
      clear hV hck hct hv0 hc HC v1
      have HP := fun w => point_any (V : Int) w
      have HU := fun w => utf8_any V w HV1.out
      have hlt' : ¬ ((k : Int) + 1 < 4) := by omega
      have EK : Hid (k = 3) := ek
      clear ek
      generalize hpb : pointB (V : Int) = pb at HP
      generalize hul : ulen V = ul at HU
      have HPB : Hid (pointB (V : Int) = pb) := hpb
      have HUL : Hid (ulen V = ul) := hul
      clear hpb hul
      have HP' : Hid _ := HP
      have HU' : Hid _ := HU
      clear HP HU
      cases pb
      · have HB : Hid (chr s i = (0, 0)) := HO.out.2 (fun q => by rw [HPB.out] at q; exact absurd q.1 (by decide))
        go_wp2_with (go_at_call 93; refine (HP'.out _).mono ?_; rintro e w' ⟨rfl, rfl⟩)
        go_ret2
        exact ⟨by rw [chrVal_of HB.out]; rfl, Below.refl _ _⟩
      · by_cases hu : ul = 4
        · have HB : Hid (chr s i = (4, V)) := HO.out.1 ⟨HPB.out, by rw [HUL.out]; exact hu⟩
          have hub : ((ul : Int) != 4) = false := by rw [bne_eq_false_iff_eq]; omega
          clear hu
          go_wp2_with (first | (go_at_call 93; refine (HP'.out _).mono ?_; rintro e w' ⟨rfl, rfl⟩) | (go_at_call 94; refine (HU'.out _).mono ?_; rintro e w' ⟨rfl, rfl⟩))
          go_ret2
          exact ⟨by rw [chrVal_of HB.out]; rfl, (Below.refl _ _).alloc (Nat.le_refl _) _⟩
        · have HB : Hid (chr s i = (0, 0)) := HO.out.2 (fun q => by rw [HUL.out] at q; exact hu q.2)
          have hub : ((ul : Int) != 4) = true := by rw [bne_iff_ne]; omega
          clear hu
          go_wp2_with (first | (go_at_call 93; refine (HP'.out _).mono ?_; rintro e w' ⟨rfl, rfl⟩) | (go_at_call 94; refine (HU'.out _).mono ?_; rintro e w' ⟨rfl, rfl⟩))
          go_ret2
          exact ⟨by rw [chrVal_of HB.out]; rfl, (Below.refl _ _).alloc (Nat.le_refl _) _⟩

theorem char_any (b off cap i : Nat) (s : ByteArray) (w : World) (hs : s.size ≤ 1048576) (hi : i < s.size) (hc : ∀ j, j < s.size → w.cell? ⟨b, off + j, none⟩ = some (bts s j)) :
    Calls Tryd.prog 91 #[.slice (some ⟨b, off, none⟩) s.size cap, .int .i64 i] w fun e w' => e = .returned (chrVal s i) ∧ Below w.heap.size w w' := by
  have h0 : w.cell? ⟨b, off + i, none⟩ = some (.int .u8 (bk s i 0 : Int)) := hc i hi
  have hk : ∀ n, i + n ≤ s.size → ∀ k, k < n → w.cell? ⟨b, off + (i + k), none⟩ = some (.int .u8 (bk s i k : Int)) := fun n hn k hk => hc (i + k) (by omega)
  have hb := bk_lt s i 0
  by_cases h1 : bk s i 0 < 128
  · exact char_ascii b off cap i s w hs hi h0 (by omega)
  by_cases h2 : bk s i 0 < 192 ∨ 248 ≤ bk s i 0
  · exact char_none b off cap i s w hs hi h0 (by omega) (by omega) (by omega)
  by_cases h3 : bk s i 0 < 224
  · by_cases hn : i + 2 ≤ s.size
    · exact char_long2 b off cap i s w hs hi h0 (by omega) (by omega) hn (hk 2 hn)
    · exact char_short2 b off cap i s w hs hi h0 (by omega) (by omega) (by omega)
  by_cases h4 : bk s i 0 < 240
  · by_cases hn : i + 3 ≤ s.size
    · exact char_long3 b off cap i s w hs hi h0 (by omega) (by omega) hn (hk 3 hn)
    · exact char_short3 b off cap i s w hs hi h0 (by omega) (by omega) (by omega)
  · by_cases hn : i + 4 ≤ s.size
    · exact char_long4 b off cap i s w hs hi h0 (by omega) (by omega) hn (hk 4 hn)
    · exact char_short4 b off cap i s w hs hi h0 (by omega) (by omega) (by omega)
end Go.Proofs.YteicpjbeihabnaaDoor

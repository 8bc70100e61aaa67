/-
  spec.DrawLex.
  Plain facts on what stands behind a backslash, and on literals. No run of the program stands in this text.
-/
import Derived.Test.YthoinjddamlapaaGreatDoorJToGA9
import Derived.Test.YthoinjddamlapaaGreatDoorJToB0
namespace Go.Proofs.YthoinjddamlapaaGreatDoor
open Go.RowKit

theorem gw_below {w w1 w' : World} {R : Nat} (hb : Below w.heap.size w w1) (hg : Gw (· = R) w1 w') (hR : w.heap.size ≤ R) : Below w.heap.size w w' :=
  hg.below hb hb.size (fun k hk e => by have e' : k = R := e; omega)
/-- What DrawLex leaves. -/
def LxQ (l : List Nat) (w : World) (r : Ending) (w' : World) : Prop :=
  ∃ v', r = .returned v' ∧ NR w' w.heap.size v' l ∧ Lo l ∧ l.length ≤ 90000020 ∧ Below w.heap.size w w'
set_option maxHeartbeats 4000000 in
set_option maxRecDepth 1000000 in
theorem drawLex_any (w : World) (a0 : Option Addr) (b off cap : Nat) (cs : ByteArray) (hs : cs.size ≤ 1048576) (hcap : cs.size ≤ cap) (ha : 0 < cs.size → a0 = some ⟨b, off, none⟩) (hc : ∀ j, j < cs.size → w.cell? ⟨b, off + j, none⟩ = some (bts cs j)) :
    Calls Tryz.prog 4 #[.slice a0 cs.size cap] w (LxQ (gLx cs (min cs.size 600)) w) := by
  have HOP := hide (open_any w a0 b off cap cs hs hcap ha hc)
  obtain ⟨n, hn⟩ : ∃ n, min cs.size 600 = n := ⟨_, rfl⟩
  have hn6 : n ≤ 600 := by omega
  have HBR : Hid (0 < n → b < w.heap.size) := fun h0 => World.block_lt_of_cell? _ _ (hc 0 (by omega))
  rw [hn]
  obtain ⟨R, hR⟩ : ∃ R, w.heap.size = R := ⟨_, rfl⟩
  rw [hR] at HOP
  have HGX : Hid (gLx cs n = if nx cs n 0 % 3 = 0 then gM cs n (gY cs n 1).2 (gY cs n 1).1 else (gY cs n 1).1) := rfl
  obtain ⟨x, hx⟩ : ∃ x, nx cs n 0 = x := ⟨_, rfl⟩
  obtain ⟨q, hq⟩ : ∃ q, gY cs n 1 = q := ⟨_, rfl⟩
  rw [hx, hq] at HGX
  obtain ⟨m, hm⟩ : ∃ m, x % 3 = m := ⟨_, rfl⟩
  have tm : (x : Int).tmod 3 = (m : Int) := by rw [← hm]; rfl
  rw [hm] at HGX
  have HX := hide hx
  have HQ := hide hq
  have HRR := hide hR
  have HNN := hide hn
  clear hc ha hx hq hm hn hR
  go_enter Tryz.func4, Tryz.ntmps4
  go_wp2_with fail
  refine HOP.out.mono ?_
  rintro r w1 ⟨n', hn', rfl, hr1, hb1⟩
  rw [HNN.out] at hn'
  subst hn'
  have HN1 := hide (next_rd hn6 hr1)
  rw [HX.out] at HN1
  have HB1 : Hid (Below w.heap.size w w1) := by show Below _ _ _; rw [HRR.out]; exact hb1
  clear hr1 hb1 HOP
  go_wp2_with fail
  refine HN1.out.mono ?_
  rintro r w2 ⟨rfl, hr2, hg2⟩
  have HW2 := hide hg2
  have HSW : Hid (R < w2.heap.size) := hr2.lt
  have HA2 := hide (any_any w2 R a0 b off n' cap cs 1 hn6 hr2 (fun h0 => by rw [← HRR.out]; exact HBR.out h0))
  rw [HQ.out] at HA2
  clear hr2 hg2 HN1
  go_wp2_with fail
  refine HA2.out.mono ?_
  rintro r w3 ⟨v3, rfl, hv3, hl3, hs3, hg3, hr3⟩
  have HW3 := hide (HW2.out.then hg3)
  clear hg3 HA2
  by_cases h3 : m = 0
  · have t3 : ((m : Int) == 0) = true := by rw [h3]; rfl
    have HM := hide (mut_nr hn6 hr3 hv3 HSW.out (by omega))
    have HEL : Hid (gLx cs n' = gM cs n' q.2 q.1) := by show _ = _; rw [HGX.out, if_pos h3]
    have HLO := hide hl3
    clear hr3 hv3 hl3 h3
    go_wp2_with fail
    refine HM.out.mono ?_
    intro r w4 hq4
    have hml := gM_le q.1 cs n' q.2
    obtain ⟨v4, rfl, ho4, hg4, hr4⟩ := hq4
    have HF : Hid (LxQ (gLx cs n') w (.returned v4) w4) := by
      show LxQ _ _ _ _
      rw [HEL.out]
      exact ⟨v4, rfl, own_nr ho4 (Nat.le_trans HB1.out.size HW3.out.size), gM_lo HLO.out _ _ _, by omega, gw_below HB1.out (HW3.out.then hg4) (by rw [HRR.out]; exact Nat.le_refl _)⟩
    clear ho4 hg4 hr4 HM
    go_wp2
    go_ret
    exact HF.out
  · have t3 : ((m : Int) == 0) = false := by rw [beq_eq_false_iff_ne]; omega
    have HF : Hid (LxQ (gLx cs n') w (.returned v3) w3) := by
      show LxQ _ _ _ _
      rw [HGX.out, if_neg h3]
      refine ⟨v3, rfl, ?_, hl3, by omega, gw_below HB1.out HW3.out (by rw [HRR.out]; exact Nat.le_refl _)⟩
      rcases hv3 with ⟨g, c, e1, e2, e3, e4⟩ | e1
      · exact .inl ⟨g, c, e1, e2, Nat.le_trans (Nat.le_trans HB1.out.size HW2.out.size) e3, e4⟩
      · exact .inr e1
    clear hr3 hv3 hl3 h3
    go_wp2
    go_ret
    exact HF.out
end Go.Proofs.YthoinjddamlapaaGreatDoor

namespace Go.Proofs.YthoinjddamlapaaGreatDoor
open Go.RowKit

/-- The value of a hexadecimal digit, or -1. -/
def hd (c : Nat) : Int := if 48 ≤ c ∧ c ≤ 57 then (c : Int) - 48 else if 97 ≤ c ∧ c ≤ 102 then (c : Int) - 87 else if 65 ≤ c ∧ c ≤ 70 then (c : Int) - 55 else -1
theorem hd_lt (c : Nat) : -1 ≤ hd c ∧ hd c ≤ 15 := by unfold hd; repeat' split <;> omega

/-- How many of at most f bytes from p on are hexadecimal digits. -/
def kc (s : ByteArray) (p : Nat) : Nat → Nat
  | 0 => 0
  | f + 1 => if p < s.size ∧ 0 ≤ hd (s.get! p).toNat then 1 + kc s (p + 1) f else 0
/-- The number that k digits from p on write. -/
def hv (s : ByteArray) (p : Nat) : Nat → Nat
  | 0 => 0
  | k + 1 => hv s p k * 16 + (hd (s.get! (p + k)).toNat).toNat

theorem hv_lt (s : ByteArray) (p : Nat) : ∀ k, hv s p k < 16 ^ k
  | 0 => by simp [hv]
  | k + 1 => by
    have h := hv_lt s p k
    have h2 := hd_lt (s.get! (p + k)).toNat
    have e : 16 ^ (k + 1) = 16 ^ k * 16 := Nat.pow_succ ..
    rw [hv, e]
    omega
theorem kc_le (s : ByteArray) : ∀ f p, kc s p f ≤ f
  | 0, _ => Nat.le_refl _
  | f + 1, p => by
    have := kc_le s f (p + 1)
    rw [kc]; split <;> omega

/-- What stands behind a backslash at i: the bytes that it stands for, and how many it takes; 0 if it is nothing. -/
def esc (s : ByteArray) (i : Nat) : List Nat × Nat :=
  if s.size ≤ i then ([], 0)
  else if (s.get! i).toNat = 34 ∨ (s.get! i).toNat = 92 then ([(s.get! i).toNat], 1)
  else if (s.get! i).toNat ≠ 117 ∨ s.size ≤ i + 1 ∨ (s.get! (i + 1)).toNat ≠ 123 then ([], 0)
  else if kc s (i + 2) 7 < 1 ∨ 6 < kc s (i + 2) 7 ∨ s.size ≤ i + 2 + kc s (i + 2) 7 ∨ (s.get! (i + 2 + kc s (i + 2) 7)).toNat ≠ 125 ∨ pointB (hv s (i + 2) (kc s (i + 2) 7)) = false then ([], 0)
  else (ubytes (hv s (i + 2) (kc s (i + 2) 7)), kc s (i + 2) 7 + 3)

theorem kc_more {s : ByteArray} {p k : Nat} (hk : k < 7) (h : p + k < s.size) (hh : 0 ≤ hd (s.get! (p + k)).toNat) (e : k + kc s (p + k) (7 - k) = kc s p 7) : k + 1 + kc s (p + (k + 1)) (7 - (k + 1)) = kc s p 7 := by
  obtain ⟨f, hf⟩ : ∃ f, 7 - k = f + 1 := ⟨6 - k, by omega⟩
  rw [hf, kc, if_pos ⟨h, hh⟩] at e
  rw [show 7 - (k + 1) = f by omega, ← Nat.add_assoc p k 1]
  omega
theorem kc_stop {s : ByteArray} {p k : Nat} (hk : k ≤ 7) (h : ¬ (k < 7 ∧ p + k < s.size ∧ 0 ≤ hd (s.get! (p + k)).toNat)) (e : k + kc s (p + k) (7 - k) = kc s p 7) : kc s p 7 = k := by
  by_cases h7 : k = 7
  · subst h7; rw [← e]; rfl
  · obtain ⟨f, hf⟩ : ∃ f, 7 - k = f + 1 := ⟨6 - k, by omega⟩
    rw [hf, kc, if_neg (fun g => h ⟨by omega, g⟩)] at e
    omega

theorem ulen_pos (v : Nat) : 0 < ulen v := by unfold ulen; (repeat' split) <;> omega
theorem esc_le (s : ByteArray) (i : Nat) : (esc s i).2 ≤ 9 ∧ (esc s i).1.length ≤ 4 ∧ ((esc s i).2 ≠ 0 → i + (esc s i).2 ≤ s.size ∧ 0 < (esc s i).1.length) := by
  have hk := kc_le s 7 (i + 2)
  unfold esc
  by_cases h1 : s.size ≤ i
  · rw [if_pos h1]; exact ⟨by simp, by simp, fun h => absurd rfl h⟩
  rw [if_neg h1]
  by_cases h2 : (s.get! i).toNat = 34 ∨ (s.get! i).toNat = 92
  · rw [if_pos h2]; exact ⟨by simp, by simp, fun _ => ⟨by simp only; omega, by simp⟩⟩
  rw [if_neg h2]
  by_cases h3 : (s.get! i).toNat ≠ 117 ∨ s.size ≤ i + 1 ∨ (s.get! (i + 1)).toNat ≠ 123
  · rw [if_pos h3]; exact ⟨by simp, by simp, fun h => absurd rfl h⟩
  rw [if_neg h3]
  generalize kc s (i + 2) 7 = k at *
  by_cases h4 : k < 1 ∨ 6 < k ∨ s.size ≤ i + 2 + k ∨ (s.get! (i + 2 + k)).toNat ≠ 125 ∨ pointB (hv s (i + 2) k) = false
  · rw [if_pos h4]; exact ⟨by simp, by simp, fun h => absurd rfl h⟩
  · rw [if_neg h4]
    refine ⟨by simp only; omega, ?_, fun _ => ⟨by simp only; omega, by simp only; rw [ubytes_len]; exact ulen_pos _⟩⟩
    simp only
    rw [ubytes_len]
    unfold ulen
    (repeat' split) <;> omega

/-- A literal's rest from i on, with what has been read: its text and the place behind its closing quote; none if there is none. -/
def lit (s : ByteArray) : Nat → Nat → List Nat → Option (List Nat × Nat)
  | 0, _, _ => none
  | f + 1, i, acc =>
    if s.size ≤ i then none
    else if (s.get! i).toNat = 34 then some (acc, i + 1)
    else if (s.get! i).toNat = 10 then none
    else if (s.get! i).toNat = 92 then (if (esc s (i + 1)).2 = 0 then none else lit s f (i + 1 + (esc s (i + 1)).2) (acc ++ (esc s (i + 1)).1))
    else lit s f (i + 1) (acc ++ [(s.get! i).toNat])
/-- A literal at p. -/
def litAt (s : ByteArray) (p : Nat) : Option (List Nat × Nat) := if s.size ≤ p ∨ (s.get! p).toNat ≠ 34 then none else lit s (s.size + 1) (p + 1) []
def litRes (s : ByteArray) (p : Nat) : List Nat × Nat := match litAt s p with | none => ([], 0) | some (l, q) => (l, q - p)

theorem lit_end {s : ByteArray} {f i : Nat} {acc : List Nat} (h : s.size ≤ i) : lit s f i acc = none := by cases f <;> simp [lit, h]
theorem lit_quote {s : ByteArray} {f i : Nat} {acc : List Nat} (hf : s.size < i + f) (h : i < s.size) (hq : (s.get! i).toNat = 34) : lit s f i acc = some (acc, i + 1) := by
  cases f with
  | zero => omega
  | succ f => rw [lit, if_neg (by omega), if_pos hq]
theorem lit_lf {s : ByteArray} {f i : Nat} {acc : List Nat} (h : i < s.size) (hq : (s.get! i).toNat = 10) : lit s f i acc = none := by
  cases f with
  | zero => rfl
  | succ f => rw [lit, if_neg (by omega), if_neg (by omega), if_pos hq]
theorem lit_esc {s : ByteArray} {f i : Nat} {acc : List Nat} (hf : s.size < i + f) (h : i < s.size) (hq : (s.get! i).toNat = 92) :
    ((esc s (i + 1)).2 = 0 → lit s f i acc = none) ∧ ((esc s (i + 1)).2 ≠ 0 → ∃ g, f = g + 1 ∧ lit s f i acc = lit s g (i + 1 + (esc s (i + 1)).2) (acc ++ (esc s (i + 1)).1)) := by
  cases f with
  | zero => omega
  | succ f =>
    rw [lit, if_neg (by omega), if_neg (by omega), if_neg (by omega), if_pos hq]
    exact ⟨fun e => by rw [if_pos e], fun e => ⟨f, rfl, by rw [if_neg e]⟩⟩
theorem lit_byte {s : ByteArray} {f i : Nat} {acc : List Nat} (hf : s.size < i + f) (h : i < s.size) (h1 : (s.get! i).toNat ≠ 34) (h2 : (s.get! i).toNat ≠ 10) (h3 : (s.get! i).toNat ≠ 92) :
    ∃ g, f = g + 1 ∧ lit s f i acc = lit s g (i + 1) (acc ++ [(s.get! i).toNat]) := by
  cases f with
  | zero => omega
  | succ f => exact ⟨f, rfl, by rw [lit, if_neg (by omega), if_neg h1, if_neg h2, if_neg h3]⟩
/-- What UnquoteText answers. -/
def unq (s : ByteArray) : List Nat × Nat := if (chk s).1 = 0 ∧ (litRes s 0).2 ≠ 0 ∧ (litRes s 0).2 = s.size then ((litRes s 0).1, 0) else ([], 2)
end Go.Proofs.YthoinjddamlapaaGreatDoor

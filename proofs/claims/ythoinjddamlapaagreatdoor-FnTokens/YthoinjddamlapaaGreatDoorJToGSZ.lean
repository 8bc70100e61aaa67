/-
  spec.l9stat whole.
-/
import Derived.Test.YthoinjddamlapaaGreatDoorJToGSU
import Derived.Test.YthoinjddamlapaaGreatDoorJToGSV
import Derived.Test.YthoinjddamlapaaGreatDoorJToGSF
import Derived.Test.YthoinjddamlapaaGreatDoorJToGSC
namespace Go.Proofs.YthoinjddamlapaaGreatDoor
open Go.RowKit

theorem gE_le {e : GE} {m : Nat} (hL : StL e m) {k i : Nat} {ints : List ByteArray} {f : Int} {o : ByteArray} (h : ∀ x ∈ ints, x.size ≤ 4) : (gE e (gS e m) k i ints f o).1.size ≤ o.size + 123 + SBd m := by
  have h1 := gB_le hL 1 i ints f h
  have h2 := gB_le hL 1 (i + 3) ints f h
  have h3 := gD_le (e := e) h i
  unfold gE
  split
  · simp only [ByteArray.size_append, lsz, List.size_toArray, List.length_cons, List.length_nil]; omega
  · split
    · simp only [ByteArray.size_append, lsz, List.size_toArray, List.length_cons, List.length_nil]; omega
    · show o.size ≤ _; omega
/-- A statement's bounds. -/
def GRok (n : Nat) (ints : List ByteArray) (r : GR) : Prop := r.s.size ≤ n ∧ (∀ x ∈ r.ints, x.size ≤ 4) ∧ r.ints.length ≤ ints.length + 1
theorem stL_all (e : GE) (ht : ∀ x ∈ e.texts, x.size ≤ 4) : ∀ m, StL e m
  | 0 => fun i ints f h => ⟨by show (⟨#[]⟩ : ByteArray).size ≤ 0; exact Nat.le_refl _, h, by show ints.length ≤ _; omega⟩
  | m + 1 => fun i ints f h => by
    have hL := stL_all e ht m
    have a1 := gA_le (e := e) h (i + 1)
    have a2 := gC_le (e := e) h (i + 1)
    have a3 := getD_le (L := wyW) (n := 5) (by decide) (e.nx i / 16 % 4)
    have a4 := decB_le (1 + e.nx i / 16 % 9)
    have a5 := getD_le (L := tgW) (n := 8) (by decide) (e.nx i / 16 % 2)
    have a6 := gN_le (e := e) h ht (i + 1)
    have a7 := gC_le (e := e) h (gN e ints (i + 1)).2
    have a8 := decB_le (e.nx i / 16 % 3)
    have a9 := gI_le h e.w (e.nx (i + 1))
    have b1 := decB_le (e.nx i / 16 % 4)
    have b2 := gB_le hL (1 + e.nx i / 64 % 2) (i + 1) (ints ++ [⟨#[105]⟩]) (f - 1 - 1) (mem_i h)
    have b2' : (1 + e.nx i / 64 % 2) * SBd m ≤ 2 * SBd m := Nat.mul_le_mul_right _ (by omega)
    have b3 := gB_le hL 1 (i + 4) ints (f - 1 - 1) h
    have b4 := gD_le (e := e) h (i + 1)
    have b5 := gK_le (e.nx i)
    have b6 := gN_le (e := e) h ht (i + 2)
    have b7 := gE_le hL (k := e.nx i) (i := (gB (gS e m) 1 (i + 4) ints (f - 1 - 1)).2) (ints := ints) (f := f - 1 - 1) (o := ({ data := #[105, 102, 32] } : ByteArray) ++ gD e ints (i + 1) ++ { data := #[32] } ++ (gB (gS e m) 1 (i + 4) ints (f - 1 - 1)).1) h
    simp only [ByteArray.size_append, lsz, List.size_toArray, List.length_cons, List.length_nil] at b7
    show GRok (250 + 2 * SBd m) ints (gS e (m + 1) i ints f)
    unfold gS
    simp only
    by_cases c0 : e.nx i % 16 < 3
    · rw [if_pos c0]
      refine ⟨?_, h, Nat.le_succ _⟩
      simp only [ByteArray.size_append, lsz, List.size_toArray, List.length_cons, List.length_nil]
      omega
    rw [if_neg c0]
    by_cases c1 : e.nx i % 16 = 3
    · rw [if_pos c1]
      refine ⟨?_, h, Nat.le_succ _⟩
      simp only [ByteArray.size_append, lsz, List.size_toArray, List.length_cons, List.length_nil]
      omega
    rw [if_neg c1]
    by_cases c2 : e.nx i % 16 = 4
    · rw [if_pos c2]
      refine ⟨?_, h, Nat.le_succ _⟩
      simp only [ByteArray.size_append, lsz, List.size_toArray, List.length_cons, List.length_nil]
      omega
    rw [if_neg c2]
    by_cases c3 : e.nx i % 16 = 5
    · rw [if_pos c3]
      refine ⟨?_, h, Nat.le_succ _⟩
      simp only [ByteArray.size_append, lsz, List.size_toArray, List.length_cons, List.length_nil]
      omega
    rw [if_neg c3]
    by_cases c4 : e.nx i % 16 = 6
    · rw [if_pos c4]
      refine ⟨?_, h, Nat.le_succ _⟩
      simp only [ByteArray.size_append, lsz, List.size_toArray, List.length_cons, List.length_nil]
      omega
    rw [if_neg c4]
    by_cases c5 : e.nx i % 16 = 7
    · rw [if_pos c5]
      refine ⟨?_, h, Nat.le_succ _⟩
      simp only [ByteArray.size_append, lsz, List.size_toArray, List.length_cons, List.length_nil]
      omega
    rw [if_neg c5]
    by_cases c6 : e.nx i % 16 < 11 ∨ f - 1 < 0
    · rw [if_pos c6]
      refine ⟨?_, h, Nat.le_succ _⟩
      simp only [ByteArray.size_append, lsz, List.size_toArray, List.length_cons, List.length_nil]
      omega
    rw [if_neg c6]
    by_cases c7 : e.nx i % 16 = 11
    · rw [if_pos c7]
      refine ⟨?_, fun x hx => ?_, by simp⟩
      · simp only [ByteArray.size_append, lsz, List.size_toArray, List.length_cons, List.length_nil]
        omega
      · rcases List.mem_append.1 hx with q | q
        · exact h x q
        · rw [List.mem_singleton.1 q]
          simp only [ByteArray.size_append, lsz, List.size_toArray, List.length_cons, List.length_nil]
          omega
    rw [if_neg c7]
    by_cases c8 : e.nx i % 16 = 12
    · rw [if_pos c8]
      refine ⟨?_, h, Nat.le_succ _⟩
      simp only [ByteArray.size_append, lsz, List.size_toArray, List.length_cons, List.length_nil]
      omega
    rw [if_neg c8]
    by_cases c9 : e.nx i % 16 = 13
    · rw [if_pos c9]
      refine ⟨?_, h, Nat.le_succ _⟩
      show (gE e (gS e m) _ _ ints _ _).1.size ≤ _
      omega
    rw [if_neg c9]
    by_cases d1 : gK (e.nx i) = ({ data := #[114, 111, 119, 40] } : ByteArray)
    · rw [if_pos d1]
      refine ⟨?_, h, Nat.le_succ _⟩
      simp only [ByteArray.size_append, lsz, List.size_toArray, List.length_cons, List.length_nil]
      omega
    · rw [if_neg d1]
      refine ⟨?_, h, Nat.le_succ _⟩
      simp only [ByteArray.size_append, lsz, List.size_toArray, List.length_cons, List.length_nil]
      omega
theorem stC_step (m : Nat) (hS : StC m) : StC (m + 1) := fun c e i vi vt ints f w h hf h0 hm hf2 hil => by
  have hk6 := e.nx_lt i
  have hL : ∀ e : GE, (∀ x ∈ e.texts, x.size ≤ 4) → StL e m := fun e ht => stL_all e ht m
  by_cases c1 : e.nx i % 16 < 3
  · exact stat_wall m c e i vi vt ints f w h hf hm hf2 hil c1
  by_cases c2 : e.nx i % 16 = 3
  · exact stat_open m c e i vi vt ints f w h hf hm hf2 hil c2
  by_cases c3 : e.nx i % 16 = 4
  · exact stat_lane m c e i vi vt ints f w h hf hm hf2 hil c3
  by_cases c4 : e.nx i % 16 = 5
  · exact stat_gate m c e i vi vt ints f w h hf hm hf2 hil c4
  by_cases c5 : e.nx i % 16 = 6
  · exact stat_bar m c e i vi vt ints f w h hf hm hf2 hil c5
  by_cases c6 : e.nx i % 16 = 7
  · exact stat_zone m c e i vi vt ints f w h hf hm hf2 hil c6
  by_cases c7 : e.nx i % 16 < 11
  · exact stat_tgt m c e i vi vt ints f w h hf hm hf2 hil ⟨by omega, c7⟩
  by_cases c8 : f - 1 < 0
  · exact stat_tgf m c e i vi vt ints f w h hf hm hf2 hil ⟨by omega, c8⟩
  by_cases c9 : e.nx i % 16 = 11
  · exact stat_let m c e i vi vt ints f w h hf hm hf2 hil ⟨c9, by omega⟩
  by_cases d1 : e.nx i % 16 = 12
  · exact stat_for m hS (hL e h.ts) c i vi vt ints f w h hf hm hf2 hil ⟨d1, by omega⟩
  by_cases d2 : e.nx i % 16 = 13
  · have h3 : e.nx i / 16 % 3 = 0 ∨ e.nx i / 16 % 3 = 1 ∨ e.nx i / 16 % 3 = 2 := by omega
    rcases h3 with q | q | q
    · exact stat_ifa m hS (hL e h.ts) c i vi vt ints f w h hf hm hf2 hil ⟨d2, by omega, q⟩
    · exact stat_ifb m hS (hL e h.ts) c i vi vt ints f w h hf hm hf2 hil ⟨d2, by omega, q⟩
    · exact stat_ifc m hS (hL e h.ts) c i vi vt ints f w h hf hm hf2 hil ⟨d2, by omega, q⟩
  by_cases d3 : e.nx i = 254
  · exact stat_c9 m c e i vi vt ints f w h hf hm hf2 hil ⟨by omega, by omega, d3⟩
  have h3 : e.nx i / 16 % 3 = 0 ∨ e.nx i / 16 % 3 = 1 ∨ e.nx i / 16 % 3 = 2 := by omega
  rcases h3 with q | q | q
  · exact stat_c0 m c e i vi vt ints f w h hf hm hf2 hil ⟨by omega, by omega, d3, q⟩
  · exact stat_c1 m c e i vi vt ints f w h hf hm hf2 hil ⟨by omega, by omega, d3, q⟩
  · exact stat_c2 m c e i vi vt ints f w h hf hm hf2 hil ⟨by omega, by omega, d3, q⟩
theorem stC_all : ∀ m, StC m
  | 0 => fun _ _ _ _ _ _ _ _ _ _ h0 => absurd h0 (Nat.lt_irrefl _)
  | m + 1 => stC_step m (stC_all m)
end Go.Proofs.YthoinjddamlapaaGreatDoor

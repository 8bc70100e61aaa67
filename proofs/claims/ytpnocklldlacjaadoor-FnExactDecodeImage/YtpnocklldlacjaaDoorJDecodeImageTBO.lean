/-
  Tables under way are the call's own.
  Plainly: what the reader makes of bytes is in its range.
-/
import Derived.Test.YtpnocklldlacjaaDoorJDecodeImageIRH
import Derived.Test.YtpnocklldlacjaaDoorJDecodeImageTbF
import Derived.Test.YtpnocklldlacjaaDoorJDecodeImageSDS
namespace Go.Proofs.YtpnocklldlacjaaDoor
open Go.RowKit

theorem map_getD {α β : Type} (L : List α) (d : α) (f : α → β) : (List.range L.length).map (fun j => f (L.getD j d)) = L.map f := by
  refine List.ext_getElem (by simp) fun i h1 h2 => ?_
  simp only [List.length_map] at h2
  simp [List.getD, h2]
theorem nm_bf {w : World} {v : Value} {s : ByteArray} (h : NmK w v s) : BF w v s (vb v s.size) := by
  obtain ⟨a, c, rfl, h1⟩ := h
  by_cases q : 0 < s.size
  · obtain ⟨g, cur, rfl, hb, hc⟩ := h1 q
    exact ⟨_, g, 0, c, rfl, fun _ => rfl, rfl, fun j hj => by rw [Nat.zero_add]; exact ⟨(hb.cell j).trans (hc j hj), hb.frozen j⟩⟩
  · refine ⟨a, 0, 0, c, rfl, fun h => absurd h q, ?_, fun j hj => by omega⟩
    rw [if_neg q]
    cases a with
    | none => rfl
    | some x => exact if_neg q
theorem ir_if {w : World} {v : Value} {l : List Int} (h : IRk w v l) : IF w v l (vb v l.length) := by
  obtain ⟨a, c, rfl, h1⟩ := h
  by_cases q : 0 < l.length
  · obtain ⟨g, cur, rfl, hb, hc⟩ := h1 q
    exact ⟨_, g, 0, c, rfl, fun _ => rfl, rfl, fun j hj => by rw [Nat.zero_add]; exact ⟨(hb.cell j).trans (hc j hj), hb.frozen j⟩⟩
  · refine ⟨a, 0, 0, c, rfl, fun h => absurd h q, ?_, fun j hj => by omega⟩
    rw [if_neg q]
    cases a with
    | none => rfl
    | some x => exact if_neg q
theorem nm_ty {w : World} {v : Value} {s : ByteArray} (h : NmK w v s) : ∀ k ∈ vb v s.size, ∃ cur, Blk w k 5 cur := by
  obtain ⟨a, c, rfl, h1⟩ := h
  intro k hk
  by_cases q : 0 < s.size
  · obtain ⟨g, cur, rfl, hb, _⟩ := h1 q
    have hk : k ∈ if 0 < s.size then [g] else [] := hk
    rw [if_pos q] at hk
    rw [List.mem_singleton.1 hk]
    exact ⟨cur, hb⟩
  · cases a with
    | none => cases hk
    | some x =>
      have hk : k ∈ if 0 < s.size then [x.block] else [] := hk
      rw [if_neg q] at hk
      cases hk
theorem ir_ty {w : World} {v : Value} {l : List Int} (h : IRk w v l) : ∀ k ∈ vb v l.length, ∃ cur, Blk w k 3 cur := by
  obtain ⟨a, c, rfl, h1⟩ := h
  intro k hk
  by_cases q : 0 < l.length
  · obtain ⟨g, cur, rfl, hb, _⟩ := h1 q
    have hk : k ∈ if 0 < l.length then [g] else [] := hk
    rw [if_pos q] at hk
    rw [List.mem_singleton.1 hk]
    exact ⟨cur, hb⟩
  · cases a with
    | none => cases hk
    | some x =>
      have hk : k ∈ if 0 < l.length then [x.block] else [] := hk
      rw [if_neg q] at hk
      cases hk
theorem ty_ne {w : World} {k k' : Nat} {t t' : TypeId} {c c' : Array Value} (h : Blk w k t c) (h' : Blk w k' t' c') (ht : t ≠ t') : k ≠ k' := fun e => by
  subst e
  unfold Blk at h h'
  rw [h] at h'
  injection h' with h'
  injection h' with _ h'
  exact ht h'
theorem tgSF_of {w : World} {B : Nat} {v : Value} {L : List (Tg × Value)} (h : TgOw w B v L) (hn : ∀ p ∈ L, NmK w p.2 p.1.name) :
    ∃ rl, TgSF w v (L.map (·.1)) (rl ++ nbl L) ∧ rl.Nodup ∧ ∀ k ∈ rl, B ≤ k ∧ ∃ cur, Blk w k 56 cur := by
  obtain ⟨a, b, c, h1, h2, h3, h4, _⟩ := h.view
  have hg : ∀ j, j < L.length → ∃ p, L[j]? = some p ∧ p ∈ L ∧ (L.map (·.1)).getD j .zero = p.1 ∧ L.getD j (.zero, .slice none 0 0) = p := fun j hj => by
    refine ⟨L[j], List.getElem?_eq_getElem hj, List.getElem_mem hj, ?_, ?_⟩
    · rw [List.getD_eq_getElem?_getD, List.getElem?_map, List.getElem?_eq_getElem hj]; rfl
    · rw [List.getD_eq_getElem?_getD, List.getElem?_eq_getElem hj]; rfl
  refine ⟨if 0 < L.length then [b] else [], ⟨a, b, 0, c, fun j => (L.getD j (.zero, .slice none 0 0)).2, fun j => vb (L.getD j (.zero, .slice none 0 0)).2 (L.getD j (.zero, .slice none 0 0)).1.name.size, by rw [List.length_map]; exact h1, fun hz => (h2 (by rw [List.length_map] at hz; exact hz)).1, ?_, fun j hj => ?_, fun j hj => ?_⟩, ?_, fun k hk => ?_⟩
  · rw [List.length_map]
    congr 1
    rw [map_getD L (.zero, .slice none 0 0) (fun p => vb p.2 p.1.name.size)]
    rfl
  · rw [List.length_map] at hj
    exact h4 (by omega) _
  · rw [List.length_map] at hj
    obtain ⟨p, p1, p2, p3, p4⟩ := hg j hj
    have hc := h3 j hj p p1
    simp only [p3, p4, Nat.zero_add]
    exact ⟨⟨by have := hc 0 (by omega); rw [Nat.add_zero] at this; exact this, by have := hc 1 (by omega); exact this, by have := hc 2 (by omega); exact this⟩, nm_bf (hn p p2)⟩
  · split
    · exact List.nodup_cons.2 ⟨List.not_mem_nil, List.nodup_nil⟩
    · exact List.nodup_nil
  · split at hk
    · rename_i hz
      rw [List.mem_singleton.1 hk]
      exact (h2 hz).2
    · cases hk
theorem iiSF_of {w : World} {B : Nat} {v : Value} {L : List (List Int × Value)} (h : IIOw w B v L) (hn : ∀ p ∈ L, IRk w p.2 p.1) :
    ∃ rl, IISF w v (L.map (·.1)) (rl ++ ibl L) ∧ rl.Nodup ∧ ∀ k ∈ rl, (B ≤ k ∧ ∃ cur, Blk w k 57 cur) ∧ v.ownBlock = some k := by
  obtain ⟨a, b, c, h1, h2, h3, _, h5⟩ := h.view
  have hg : ∀ j, j < L.length → ∃ p, L[j]? = some p ∧ p ∈ L ∧ (L.map (·.1)).getD j [] = p.1 ∧ L.getD j ([], .slice none 0 0) = p := fun j hj => by
    refine ⟨L[j], List.getElem?_eq_getElem hj, List.getElem_mem hj, ?_, ?_⟩
    · rw [List.getD_eq_getElem?_getD, List.getElem?_map, List.getElem?_eq_getElem hj]; rfl
    · rw [List.getD_eq_getElem?_getD, List.getElem?_eq_getElem hj]; rfl
  refine ⟨if 0 < L.length then [b] else [], ⟨a, b, 0, c, fun j => (L.getD j ([], .slice none 0 0)).2, fun j => vb (L.getD j ([], .slice none 0 0)).2 (L.getD j ([], .slice none 0 0)).1.length, by rw [List.length_map]; exact h1, fun hz => (h2 (by rw [List.length_map] at hz; exact hz)).1, ?_, fun j hj => ?_⟩, ?_, fun k hk => ?_⟩
  · rw [List.length_map]
    congr 1
    rw [map_getD L ([], .slice none 0 0) (fun p => vb p.2 p.1.length)]
    rfl
  · rw [List.length_map] at hj
    obtain ⟨p, p1, p2, p3, p4⟩ := hg j hj
    simp only [p3, p4, Nat.zero_add]
    exact ⟨h3 j hj p p1, ir_if (hn p p2)⟩
  · split
    · exact List.nodup_cons.2 ⟨List.not_mem_nil, List.nodup_nil⟩
    · exact List.nodup_nil
  · split at hk
    · rename_i hz
      rw [List.mem_singleton.1 hk]
      refine ⟨(h2 hz).2, ?_⟩
      rw [h5, (h2 hz).1]
      rfl
    · cases hk
theorem tb_own {w0 w : World} {B : Nat} {vT vH vD : Value} {LT : List (Tg × Value)} {LH LD : List (List Int × Value)} (h : TS w B vT vH vD LT LH LD) (hB : w0.heap.size ≤ B) (en : Els w B (nbl LT)) (ei : Els w B (ibl LH ++ ibl LD)) (x y : Int) :
    ∃ bl, TbF w ⟨x, y, LT.map (·.1), LD.map (·.1), LH.map (·.1)⟩ vT vD vH bl ∧ Fr w0 w bl := by
  obtain ⟨rT, t1, t2, t3⟩ := tgSF_of h.tg h.nm
  obtain ⟨rD, d1, d2, d3⟩ := iiSF_of h.ds h.dr
  obtain ⟨rH, h1, h2, h3⟩ := iiSF_of h.hp h.hr
  have tn : ∀ k ∈ nbl LT, ∃ cur, Blk w k 5 cur := fun k hk => by
    obtain ⟨p, hp, hk⟩ := List.mem_flatMap.1 hk
    exact nm_ty (h.nm p hp) k hk
  have tD : ∀ k ∈ ibl LD, ∃ cur, Blk w k 3 cur := fun k hk => by
    obtain ⟨p, hp, hk⟩ := List.mem_flatMap.1 hk
    exact ir_ty (h.dr p hp) k hk
  have tH : ∀ k ∈ ibl LH, ∃ cur, Blk w k 3 cur := fun k hk => by
    obtain ⟨p, hp, hk⟩ := List.mem_flatMap.1 hk
    exact ir_ty (h.hr p hp) k hk
  have ei0 := List.nodup_append.1 ei.nd
  have hne : ∀ p ∈ rD, ∀ q ∈ rH, p ≠ q := fun p hp q hq e => by
    have e1 := (d3 p hp).2
    have e2 := (h3 q hq).2
    rcases h.ne with e3 | e3
    · rw [e2] at e3; cases e3
    · rw [e1, e2, e] at e3; exact e3 rfl
  refine ⟨(rT ++ nbl LT) ++ ((rD ++ ibl LD) ++ (rH ++ ibl LH)), ⟨_, _, _, rfl, t1, d1, h1⟩, ?_⟩
  have loc : ∀ k ∈ (rT ++ nbl LT) ++ ((rD ++ ibl LD) ++ (rH ++ ibl LH)), B ≤ k ∧ k < w.heap.size := fun k hk => by
    simp only [List.mem_append] at hk
    rcases hk with (hk | hk) | (hk | hk) | (hk | hk)
    · obtain ⟨q1, cur, q2⟩ := t3 k hk; exact ⟨q1, q2.lt⟩
    · exact en.loc k hk
    · obtain ⟨⟨q1, cur, q2⟩, _⟩ := d3 k hk; exact ⟨q1, q2.lt⟩
    · exact ei.loc k (List.mem_append_right _ hk)
    · obtain ⟨⟨q1, cur, q2⟩, _⟩ := h3 k hk; exact ⟨q1, q2.lt⟩
    · exact ei.loc k (List.mem_append_left _ hk)
  refine ⟨?_, fun k hk => Nat.le_trans hB (loc k hk).1, fun k hk => (loc k hk).2⟩
  refine List.nodup_append.2 ⟨List.nodup_append.2 ⟨t2, en.nd, fun p hp q hq => ?_⟩, List.nodup_append.2 ⟨List.nodup_append.2 ⟨d2, ei0.2.1, fun p hp q hq => ?_⟩, List.nodup_append.2 ⟨h2, ei0.1, fun p hp q hq => ?_⟩, fun p hp q hq => ?_⟩, fun p hp q hq => ?_⟩
  · obtain ⟨_, _, q1⟩ := t3 p hp
    obtain ⟨_, q2⟩ := tn q hq
    exact ty_ne q1 q2 (by decide)
  · obtain ⟨⟨_, _, q1⟩, _⟩ := d3 p hp
    obtain ⟨_, q2⟩ := tD q hq
    exact ty_ne q1 q2 (by decide)
  · obtain ⟨⟨_, _, q1⟩, _⟩ := h3 p hp
    obtain ⟨_, q2⟩ := tH q hq
    exact ty_ne q1 q2 (by decide)
  · rcases List.mem_append.1 hp with hp | hp
    · rcases List.mem_append.1 hq with hq | hq
      · exact hne p hp q hq
      · obtain ⟨⟨_, _, q1⟩, _⟩ := d3 p hp
        obtain ⟨_, q2⟩ := tH q hq
        exact ty_ne q1 q2 (by decide)
    · rcases List.mem_append.1 hq with hq | hq
      · obtain ⟨_, q1⟩ := tD p hp
        obtain ⟨⟨_, _, q2⟩, _⟩ := h3 q hq
        exact ty_ne q1 q2 (by decide)
      · exact fun e => ei0.2.2 q hq p hp e.symm
  · rcases List.mem_append.1 hp with hp | hp
    · obtain ⟨_, _, q1⟩ := t3 p hp
      simp only [List.mem_append] at hq
      rcases hq with (hq | hq) | (hq | hq)
      · obtain ⟨⟨_, _, q2⟩, _⟩ := d3 q hq; exact ty_ne q1 q2 (by decide)
      · obtain ⟨_, q2⟩ := tD q hq; exact ty_ne q1 q2 (by decide)
      · obtain ⟨⟨_, _, q2⟩, _⟩ := h3 q hq; exact ty_ne q1 q2 (by decide)
      · obtain ⟨_, q2⟩ := tH q hq; exact ty_ne q1 q2 (by decide)
    · obtain ⟨_, q1⟩ := tn p hp
      simp only [List.mem_append] at hq
      rcases hq with (hq | hq) | (hq | hq)
      · obtain ⟨⟨_, _, q2⟩, _⟩ := d3 q hq; exact ty_ne q1 q2 (by decide)
      · obtain ⟨_, q2⟩ := tD q hq; exact ty_ne q1 q2 (by decide)
      · obtain ⟨⟨_, _, q2⟩, _⟩ := h3 q hq; exact ty_ne q1 q2 (by decide)
      · obtain ⟨_, q2⟩ := tH q hq; exact ty_ne q1 q2 (by decide)
end Go.Proofs.YtpnocklldlacjaaDoor

namespace Go.Proofs.YtpnocklldlacjaaDoor
open Go.RowKit

theorem w64_of {n : Int} (h0 : -9223372036854775808 ≤ n) (h1 : n ≤ 9223372036854775807) : W64 n := by
  have e0 : IntKind.min .i64 = -9223372036854775808 := rfl
  have e1 : IntKind.max .i64 = 9223372036854775807 := rfl
  show (decide (IntKind.min .i64 ≤ n) && decide (n ≤ IntKind.max .i64)) = true
  rw [e0, e1, decide_eq_true h0, decide_eq_true h1]
  rfl
/-- A number that a row holds. -/
def Nm (x : Int) : Prop := -1 ≤ x ∧ x < 65536
theorem upv_le (b : ByteArray) (i : Nat) : upv b i ≤ 7 := by
  have h1 := bbit_le b (3 * i)
  have h2 := bbit_le b (3 * i + 1)
  have h3 := bbit_le b (3 * i + 2)
  unfold upv
  omega
theorem uph_nm (b : ByteArray) (i : Nat) : Nm (uph b i) := by
  have := upv_le b i
  unfold uph Nm
  split <;> omega
theorem upF_nm (b : ByteArray) (n : Int) : ∀ x ∈ upF b n, Nm x := by
  unfold upF
  split
  · intro x hx
    obtain ⟨i, _, rfl⟩ := List.mem_map.1 hx
    exact uph_nm b i
  · exact fun x hx => (nomatch hx)
theorem di_nm {v : Nat} (h : v < 65536) : Nm (di v) := by
  unfold di Nm
  split <;> omega
theorem rDs_nm {s : ByteArray} {st : Nat × Bool} : ∀ c, ∀ x ∈ (rDs (fb s) s.size st c).1, Nm x
  | 0, x, h => nomatch h
  | c + 1, x, h => by
    rcases List.mem_append.1 (show x ∈ (rDs (fb s) s.size st c).1 ++ [_] from h) with h | h
    · exact rDs_nm c x h
    · rw [List.mem_singleton.1 h]
      exact di_nm (Nat.lt_of_lt_of_eq (rn_lt (n := 2)) rfl)
theorem rRs_nm {s : ByteArray} {C : Nat} {s4 : Nat × Bool} : ∀ k {P D : List (List Int)} {st : Nat × Bool}, rRs (fb s) s.size C s4 k = some (P, D, st) → P.length ≤ k ∧ D.length ≤ k ∧ (∀ l ∈ P, ∀ x ∈ l, Nm x) ∧ (∀ l ∈ D, ∀ x ∈ l, Nm x)
  | 0, P, D, st, h => by
    injection h with h
    injection h with h1 h2
    injection h2 with h2 _
    subst h1 h2
    exact ⟨Nat.le_refl _, Nat.le_refl _, fun l hl => (nomatch hl), fun l hl => (nomatch hl)⟩
  | k + 1, P, D, st, h => by
    have h' : (match rRs (fb s) s.size C s4 k with | none => none | some (P, D, s1) => if s1.2 = true then some (P, D, s1) else if upC (rb (fb s) s.size s1 ((3 * C + 7) / 8)).1 (C : Nat) = 0 then some (P ++ [upF (rb (fb s) s.size s1 ((3 * C + 7) / 8)).1 (C : Nat)], D ++ [(rDs (fb s) s.size (rb (fb s) s.size s1 ((3 * C + 7) / 8)).2 C).1], (rDs (fb s) s.size (rb (fb s) s.size s1 ((3 * C + 7) / 8)).2 C).2) else none) = some (P, D, st) := h
    cases hk : rRs (fb s) s.size C s4 k with
    | none => rw [hk] at h'; cases h'
    | some q =>
      obtain ⟨P0, D0, s0⟩ := q
      obtain ⟨i1, i2, i3, i4⟩ := rRs_nm k hk
      rw [hk] at h'
      simp only at h'
      split at h'
      · injection h' with h'
        injection h' with h1 h2
        injection h2 with h2 _
        subst h1 h2
        exact ⟨by omega, by omega, i3, i4⟩
      · split at h'
        · injection h' with h'
          injection h' with h1 h2
          injection h2 with h2 _
          subst h1 h2
          refine ⟨by rw [List.length_append, List.length_singleton]; omega, by rw [List.length_append, List.length_singleton]; omega, fun l hl => ?_, fun l hl => ?_⟩
          · rcases List.mem_append.1 hl with hl | hl
            · exact i3 l hl
            · rw [List.mem_singleton.1 hl]; exact upF_nm _ _
          · rcases List.mem_append.1 hl with hl | hl
            · exact i4 l hl
            · rw [List.mem_singleton.1 hl]; exact rDs_nm _
        · cases h'
theorem rTs_rng {s : ByteArray} {st : Nat × Bool} : ∀ k, ∀ t ∈ (rTs (fb s) s.size st k).1, 0 ≤ t.kind ∧ t.kind < 65536 ∧ 0 ≤ t.cell ∧ t.cell < 65536
  | 0, t, h => nomatch h
  | k + 1, t, h => by
    rcases List.mem_append.1 (show t ∈ (rTs (fb s) s.size st k).1 ++ [_] from h) with h | h
    · exact rTs_rng k t h
    · have e := List.mem_singleton.1 h
      have h1 : (rn (fb s) s.size (rTs (fb s) s.size st k).2 1).1 < 256 ^ 1 := rn_lt
      have h2 : (rn (fb s) s.size (rn (fb s) s.size (rTs (fb s) s.size st k).2 1).2 2).1 < 256 ^ 2 := rn_lt
      have ek : t.kind = ((rn (fb s) s.size (rTs (fb s) s.size st k).2 1).1 : Nat) := by rw [e]; rfl
      have ec : t.cell = ((rn (fb s) s.size (rn (fb s) s.size (rTs (fb s) s.size st k).2 1).2 2).1 : Nat) := by rw [e]; rfl
      refine ⟨by omega, ?_, by omega, ?_⟩
      · rw [ek]
        have : (256 : Nat) ^ 1 = 256 := rfl
        omega
      · rw [ec]
        have : (256 : Nat) ^ 2 = 65536 := rfl
        omega
theorem getD_mem {α : Type} {L : List α} {j : Nat} {d : α} (hj : j < L.length) : L.getD j d ∈ L := by
  rw [List.getD_eq_getElem?_getD, List.getElem?_eq_getElem hj]
  exact List.getElem_mem hj
theorem iisl_of {L : List (List Int)} (h1 : L.length ≤ 1048576) (h2 : ∀ l ∈ L, l.length ≤ 1048576) (h3 : ∀ l ∈ L, ∀ x ∈ l, Nm x) : IISL L :=
  ⟨by omega, fun j hj => ⟨by have := h2 _ (getD_mem (d := []) hj); omega, fun i hi => by
    have := h3 _ (getD_mem (d := []) hj) _ (getD_mem (d := 0) hi)
    unfold Nm at this
    exact w64_of (by omega) (by omega)⟩⟩
theorem rI_rng {s : ByteArray} {d : Tb} (h : rI (fb s) s.size = some d) : TbL d ∧ TbB d ∧ 4 ≤ s.size := by
  unfold rI at h
  split at h
  · cases h
  split at h
  · cases h
  rename_i h4 hh
  generalize (rH (fb s) s.size).1 = n1 at h hh
  generalize (rH (fb s) s.size).2.1 = n2 at h hh
  generalize (rH (fb s) s.size).2.2.1 = n3 at h hh
  generalize (rH (fb s) s.size).2.2.2 = s3 at h
  have hC : n1 * n2 ≤ 40 * 40 := Nat.mul_le_mul (by omega) (by omega)
  cases hr : rRs (fb s) s.size (n1 * n2) (rTs (fb s) s.size s3 n3).2 n3 with
  | none => rw [hr] at h; cases h
  | some q =>
    obtain ⟨P, D, st⟩ := q
    rw [hr] at h
    simp only at h
    split at h
    · cases h
    · injection h with h
      subst h
      obtain ⟨p1, p2, p3, p4⟩ := rRs_nm n3 hr
      obtain ⟨l1, l2⟩ := rRs_len n3 hr
      have ht := rTs_len (fb s) s.size s3 n3
      refine ⟨⟨w64_of (by show _ ≤ ((n1 : Nat) : Int); omega) (by show ((n1 : Nat) : Int) ≤ _; omega), w64_of (by show _ ≤ ((n2 : Nat) : Int); omega) (by show ((n2 : Nat) : Int) ≤ _; omega), ⟨by show (((rTs (fb s) s.size s3 n3).1.length : Nat) : Int) ≤ _; omega, fun j hj => ?_⟩, iisl_of (by show D.length ≤ _; omega) (fun l hl => by have := l2 l hl; omega) p4, iisl_of (by show P.length ≤ _; omega) (fun l hl => by have := l1 l hl; omega) p3⟩, tbB_of (C := n1 * n2) (by omega) (by omega) (rTs_nm n3) (by omega) l2 (by omega) l1, by omega⟩
      have hm := getD_mem (d := Tg.zero) hj
      have hn := rTs_nm n3 _ hm
      obtain ⟨q1, q2, q3, q4⟩ := rTs_rng n3 _ hm
      exact ⟨by omega, w64_of (by omega) (by omega), w64_of (by omega) (by omega)⟩
end Go.Proofs.YtpnocklldlacjaaDoor

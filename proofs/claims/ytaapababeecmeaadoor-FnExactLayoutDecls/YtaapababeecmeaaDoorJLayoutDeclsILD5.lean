/-
  cellDecls, whole.
  A row of Decl with its names, as the law holds it.
-/
import Derived.Test.YtaapababeecmeaaDoorJLayoutDeclsILD2
import Derived.Test.YtaapababeecmeaaDoorJLayoutDeclsILD3
import Derived.Test.YtaapababeecmeaaDoorJLayoutDeclsILD4
import Derived.Test.YtaapababeecmeaaDoorJLayoutDeclsSLD0
import Derived.Test.YtaapababeecmeaaDoorJLayoutDeclsDcSF
namespace Go.Proofs.YtaapababeecmeaaDoor
open Go.RowKit Go.Shelf

theorem cellDecls_any (d : Ly) (v2 v3 v4 : Value) (c : Nat) (w : World) (hm : MvOk w) (hv : IS w v2 d.cost) (hx : IS w v3 d.exits) (hok : LyOk d) (hc : c < d.cost.length) :
    Calls Tryd.prog 37 #[lyagg d v2 v3 v4, .int .i64 c] w fun e w' => ∃ v LV, e = .returned v ∧ DcOw w' w.heap.size v LV ∧ LV.map (·.1) = cellD d c ∧ (∀ p ∈ LV, p.2 = .slice none 0 0) ∧ Below w.heap.size w w' := by
  by_cases h0 : d.cost.getD c 0 = 0
  · exact cellDecls_wall d v2 v3 v4 c w hm hv hx hok hc h0
  · by_cases h1 : d.cost.getD c 0 = 1
    · exact cellDecls_one d v2 v3 v4 c w hm hv hx hok hc h1
    · exact cellDecls_zone d v2 v3 v4 c w hm hv hx hok hc h0 h1
end Go.Proofs.YtaapababeecmeaaDoor

namespace Go.Proofs.YtaapababeecmeaaDoor
open Go.RowKit

/-- The block of a name. -/
def nb (p : Dc × Value) : List Nat := if 0 < p.1.name.size then p.2.ownBlock.toList else []
def nbs (LV : List (Dc × Value)) : List Nat := (LV.map nb).flatten
theorem nbs_append (a b : List (Dc × Value)) : nbs (a ++ b) = nbs a ++ nbs b := by unfold nbs; rw [List.map_append, List.flatten_append]
theorem nb_nil {p : Dc × Value} (h : p.2 = .slice none 0 0) : nb p = [] := by
  unfold nb
  rw [h]
  split <;> rfl
theorem nbs_nil {LV : List (Dc × Value)} (h : ∀ p ∈ LV, p.2 = .slice none 0 0) : nbs LV = [] := by
  unfold nbs
  rw [List.flatten_eq_nil_iff]
  intro l hl
  obtain ⟨p, hp, rfl⟩ := List.mem_map.1 hl
  exact nb_nil (h p hp)
theorem nb_bf {w : World} {p : Dc × Value} (h : NmOk w p.2 p.1.name) : BF w p.2 p.1.name (nb p) := by
  unfold nb
  rcases h with ⟨h1, h2⟩ | ⟨g, c, cur, h1, h2, h3⟩
  · rw [h1, h2]
    exact ⟨none, 0, 0, 0, rfl, fun h => absurd h (by decide), rfl, fun j hj => absurd hj (Nat.not_lt_zero _)⟩
  · rw [h1]
    exact ⟨_, g, 0, c, rfl, fun _ => rfl, rfl, fun j hj => ⟨by rw [Nat.zero_add, h2.cell j]; exact h3 j hj, by rw [Nat.zero_add]; exact h2.frozen j⟩⟩
/-- The blocks of names are of bytes. -/
theorem nb_blk {w : World} {p : Dc × Value} (h : NmOk w p.2 p.1.name) : ∀ g ∈ nb p, ∃ cur, Blk w g 5 cur := by
  intro g hg
  unfold nb at hg
  rcases h with ⟨h1, h2⟩ | ⟨g', c, cur, h1, h2, h3⟩
  · rw [h1] at hg
    split at hg <;> cases hg
  · rw [h1] at hg
    split at hg
    · obtain rfl : g = g' := by simpa [Value.ownBlock] using hg
      exact ⟨cur, h2⟩
    · cases hg
theorem nbs_blk {w : World} {LV : List (Dc × Value)} (h : ∀ p ∈ LV, NmOk w p.2 p.1.name) : ∀ g ∈ nbs LV, ∃ cur, Blk w g 5 cur := by
  intro g hg
  obtain ⟨l, hl, hg⟩ := List.mem_flatten.1 hg
  obtain ⟨p, hp, rfl⟩ := List.mem_map.1 hl
  exact nb_blk (h p hp) g hg
theorem DcOw.nilOr {w : World} {B : Nat} {v : Value} {L : List (Dc × Value)} (h : DcOw w B v L) : (v = .slice none 0 0 ∧ L = []) ∨ ∃ g c, v = .slice (some ⟨g, 0, none⟩) L.length c ∧ ∀ j, j < L.length → ∀ p, L[j]? = some p → ∀ i, i < 9 → w.cell? ⟨g, j * 9 + i, none⟩ = (dcc p.1 p.2)[i]? := by
  obtain ⟨a, b, c, h1, h2, h3, _⟩ := h.view
  rcases h.2 with ⟨e1, e2⟩ | ⟨g, c', cur, hv, _⟩
  · exact .inl ⟨e1, List.length_eq_zero_iff.1 e2⟩
  · refine .inr ⟨g, c', hv, fun j hj => ?_⟩
    have e := (h2 (by omega)).1
    rw [h1, e] at hv
    obtain rfl : b = g := by injection hv with q; injection q with q; injection q
    exact h3 j hj
theorem nbs_one {d : Dc} {g n c : Nat} (h : 0 < d.name.size) : nbs [(d, .slice (some ⟨g, 0, none⟩) n c)] = [g] := by
  unfold nbs nb
  simp [h, Value.ownBlock]
/-- What is handed out. -/
theorem dcSF_of {w0 w : World} {B : Nat} {v : Value} {LV : List (Dc × Value)} (h : DcOw w B v LV) (hB : w0.heap.size ≤ B) (hn : ∀ p ∈ LV, NmOk w p.2 p.1.name) (hd : (nbs LV).Nodup) (hg : ∀ g ∈ nbs LV, w0.heap.size ≤ g) :
    ∃ bl, DcSF w v (LV.map (·.1)) bl ∧ Fr w0 w bl := by
  obtain ⟨a, b, c, h1, h2, h3, h4, h5⟩ := h.view
  have hbn : ∀ g ∈ nbs LV, 0 < LV.length → g ≠ b := fun g hg' hz e => by
    subst e
    obtain ⟨cur, hb⟩ := nbs_blk hn g hg'
    obtain ⟨_, _, cur', hb'⟩ := h2 hz
    exact absurd (blk_ty hb hb') (by decide)
  refine ⟨(if 0 < (LV.map (·.1)).length then [b] else []) ++ ((List.range (LV.map (·.1)).length).map (fun j => nb (LV.getD j (.zero, .slice none 0 0)))).flatten, ⟨a, b, 0, c, fun j => (LV.getD j (.zero, .slice none 0 0)).2, fun j => nb (LV.getD j (.zero, .slice none 0 0)), by rw [List.length_map]; exact h1, fun hz => (h2 (by rw [List.length_map] at hz; exact hz)).1, rfl, fun j hj => ?_, fun j hj => ?_⟩, ?_⟩
  · rw [List.length_map] at hj
    exact h4 (by omega) _
  · rw [List.length_map] at hj
    obtain ⟨p, hp⟩ : ∃ p, LV[j]? = some p := ⟨LV[j], List.getElem?_eq_getElem hj⟩
    have hd : (LV.map (·.1)).getD j .zero = p.1 := by rw [List.getD_eq_getElem?_getD, List.getElem?_map, hp]; rfl
    have hd2 : LV.getD j (.zero, .slice none 0 0) = p := by rw [List.getD_eq_getElem?_getD, hp]; rfl
    rw [hd]
    simp only [hd2]
    have hc := h3 j hj p hp
    simp only [Nat.zero_add]
    refine ⟨⟨by have := hc 0 (by omega); rw [Nat.add_zero] at this; exact this, by have := hc 1 (by omega); exact this, by have := hc 2 (by omega); exact this, by have := hc 3 (by omega); exact this, by have := hc 4 (by omega); exact this, by have := hc 5 (by omega); exact this, by have := hc 6 (by omega); exact this, by have := hc 7 (by omega); exact this, by have := hc 8 (by omega); exact this⟩, nb_bf (hn p (List.mem_of_getElem? hp))⟩
  · have hr : ((List.range (LV.map (·.1)).length).map (fun j => nb (LV.getD j (.zero, .slice none 0 0)))) = LV.map nb := by
      rw [List.length_map]
      apply List.ext_getElem?
      intro j
      rw [List.getElem?_map, List.getElem?_map]
      rcases Nat.lt_or_ge j LV.length with hj | hj
      · have e : LV.getD j (.zero, .slice none 0 0) = LV[j] := by rw [List.getD_eq_getElem?_getD, List.getElem?_eq_getElem hj]; rfl
        rw [List.getElem?_range hj, List.getElem?_eq_getElem hj, Option.map_some, Option.map_some, e]
      · rw [List.getElem?_eq_none (l := List.range _) (by simp; exact hj), List.getElem?_eq_none hj, Option.map_none, Option.map_none]
    rw [hr, List.length_map]
    show Fr w0 w (_ ++ nbs LV)
    by_cases hz : 0 < LV.length
    · rw [if_pos hz]
      obtain ⟨_, hb, cur, hcur⟩ := h2 hz
      have hlt : b < w.heap.size := (Array.getElem?_eq_some_iff.1 hcur).1
      refine ⟨List.nodup_append.2 ⟨by simp, hd, fun p hp q hq e => ?_⟩, fun g hg' => ?_, fun g hg' => ?_⟩
      · rw [List.mem_singleton.1 hp] at e
        exact hbn q hq hz e.symm
      · rcases List.mem_append.1 hg' with h | h
        · rw [List.mem_singleton.1 h]; omega
        · exact hg g h
      · rcases List.mem_append.1 hg' with h | h
        · rw [List.mem_singleton.1 h]; exact hlt
        · obtain ⟨cur, hb⟩ := nbs_blk hn g h
          exact hb.lt
    · rw [if_neg hz, List.nil_append]
      refine ⟨hd, hg, fun g hg' => ?_⟩
      obtain ⟨cur, hb⟩ := nbs_blk hn g hg'
      exact hb.lt
end Go.Proofs.YtaapababeecmeaaDoor

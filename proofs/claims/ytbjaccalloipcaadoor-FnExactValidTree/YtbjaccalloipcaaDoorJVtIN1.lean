/-
  The walk of toIntS.
  Trees in memory: what a list of nodes reads as.
-/
import Derived.Test.YtbjaccalloipcaaDoorJVtIN0
import Derived.Test.YtbjaccalloipcaaDoorJVtB0
namespace Go.Proofs.YtbjaccalloipcaaDoor
open Go.RowKit

set_option maxHeartbeats 400000 in
theorem toI_row (v : Value) (l : List Int) (w : World) (hs : l.length ≤ 1048576) (h : IS w v l) :
    Calls Tryd.prog 24 #[v] w fun e w' => (∃ c, e = .returned (.slice (some ⟨w.heap.size, 0, none⟩) l.length c) ∧ l.length ≤ c) ∧ w.heap.size < w'.heap.size ∧ Fz w' w.heap.size ∧ (∀ j, j < l.length → w'.cell? ⟨w.heap.size, j, none⟩ = some (.int .i64 (l.getD j 0))) ∧ Below w.heap.size w w' := by
  obtain ⟨a0, b, off, cap, rfl, ha, hc⟩ := h
  have hmk := run_make_row' (P := Tryd.prog) 32 3 (.int .i64 0) 8 Tryd.underlying32 (by kernel_rfl) rfl .i64 .i64 l.length (by omega) (by omega)
  have HC := hide hc
  clear hc
  go_enter Tryd.func24, Tryd.ntmps24
  go_wp2
  clear hmk
  go_loopw [4] (fun i wr => ∃ k : Nat, k ≤ l.length ∧ i = .int .i64 k ∧ wr.rowIs w.heap.size 3 l.length (fun j => if j < k then .int .i64 (l.getD j 0) else .int .i64 0) ∧ Below w.heap.size w wr ∧ wr.heap.size = w.heap.size + 1) (fun i _ => l.length - (intOf i).toNat)
  case atStart => exact ⟨0, Nat.zero_le _, rfl, (World.rowIs_made w _ l.length 3).congr (fun j _ => by simp), (Below.refl _ _).alloc (Nat.le_refl _) _, by simp⟩
  case round =>
    obtain ⟨k, hk, rfl, hrow, hbl, hsz⟩ := hrel
    by_cases hlt : k < l.length
    · obtain rfl := ha (by omega)
      have g0 : wr.cell? ⟨b, off + k, none⟩ = some (.int .i64 (l.getD k 0)) := cell_kept (HC.out k hlt) hbl
      have g1 : wr.cell? ⟨w.heap.size, k, none⟩ = some (.int .i64 0) := by rw [hrow.cell hlt]; simp
      have g2 : wr.frozen? ⟨w.heap.size, k, none⟩ = false := hrow.frozen k
      have HROW := hide hrow
      have HBL := hide hbl
      have HSZ := hide hsz
      obtain ⟨y, hy⟩ : ∃ y, l.getD k 0 = y := ⟨_, rfl⟩
      rw [hy] at g0
      have HY := hide hy
      clear hrow hbl hsz hy
      go_wp2
      go_roundw
      case rel => exact ⟨k + 1, by omega, by go_num, (HROW.out.set k _).congr (fun j _ => by
          by_cases e : j = k
          · subst e; simp [← HY.out]
          · rw [if_neg e]; by_cases hj : j < k
            · rw [if_pos hj, if_pos (by omega)]
            · rw [if_neg hj, if_neg (by omega)]), HBL.out.setCell (Nat.le_refl _) _, by simp [HSZ.out]⟩
      case measure => simp [intOf]; omega
    · go_wp2
      go_ret
      exact ⟨⟨_, rfl, Nat.le_refl _⟩, by omega, hrow.frozen, fun j hj => by rw [hrow.cell hj, if_pos (by omega)], hbl⟩
theorem toI_any (v : Value) (l : List Int) (w : World) (hs : l.length ≤ 1048576) (h : IS w v l) :
    Calls Tryd.prog 24 #[v] w fun e w' => ∃ v', e = .returned v' ∧ (∀ G, G < w.heap.size → ICp w' G v' l) ∧ Below w.heap.size w w' :=
  (toI_row v l w hs h).mono fun _ _ ⟨⟨c, he, _⟩, hlt, hf, hc, hb⟩ => ⟨_, he, fun _ hG => ⟨w.heap.size, c, hG, hlt, rfl, hf, fun j hj => by rw [Nat.zero_add]; exact hc j hj⟩, hb⟩
end Go.Proofs.YtbjaccalloipcaaDoor

namespace Go.Proofs.YtbjaccalloipcaaDoor
open Go.RowKit

/-- A node. -/
structure Nd where
  kind : Int
  n : Int
  text : ByteArray
  names : List ByteArray
  types : List Int
  count : Int
def Nd.zero : Nd := ⟨0, 0, .empty, [], [], 0⟩
/-- A node's value, with the slices that it holds. -/
def nagg (d : Nd) (vt vn vy : Value) : Value := .agg #[.int .i64 d.kind, .int .i64 d.n, vt, vn, vy, .int .i64 d.count]
/-- The slices of a node read as its lists. -/
structure NV (w : World) (d : Nd) (vt vn vy : Value) : Prop where
  text : BS w vt d.text
  names : SS w vn d.names
  types : IS w vy d.types
/-- A node's cells. -/
structure NC (w : World) (b p : Nat) (d : Nd) (vt vn vy : Value) : Prop where
  kind : w.cell? ⟨b, p, none⟩ = some (.int .i64 d.kind)
  n : w.cell? ⟨b, p + 1, none⟩ = some (.int .i64 d.n)
  text : w.cell? ⟨b, p + 2, none⟩ = some vt
  names : w.cell? ⟨b, p + 3, none⟩ = some vn
  types : w.cell? ⟨b, p + 4, none⟩ = some vy
  count : w.cell? ⟨b, p + 5, none⟩ = some (.int .i64 d.count)
/-- A slice of nodes reads as L. -/
def NS (w : World) (v : Value) (L : List Nd) : Prop := ∃ a b o c, v = .slice a L.length c ∧ (0 < L.length → a = some ⟨b, o, none⟩) ∧ ∀ j, j < L.length → ∃ vt vn vy, NC w b (o + j * 6) (L.getD j .zero) vt vn vy ∧ NV w (L.getD j .zero) vt vn vy

theorem NV.below {w w' : World} {d : Nd} {vt vn vy : Value} (h : NV w d vt vn vy) (hb : Below w.heap.size w w') : NV w' d vt vn vy := ⟨h.text.below hb, h.names.below hb, h.types.below hb⟩
theorem NC.below {w w' : World} {b p : Nat} {d : Nd} {vt vn vy : Value} (h : NC w b p d vt vn vy) (hb : Below w.heap.size w w') : NC w' b p d vt vn vy :=
  ⟨cell_kept h.kind hb, cell_kept h.n hb, cell_kept h.text hb, cell_kept h.names hb, cell_kept h.types hb, cell_kept h.count hb⟩
theorem NS.below {w w' : World} {v : Value} {L : List Nd} (h : NS w v L) (hb : Below w.heap.size w w') : NS w' v L := by
  obtain ⟨a, b, o, c, h1, h2, h3⟩ := h
  refine ⟨a, b, o, c, h1, h2, fun j hj => ?_⟩
  obtain ⟨vt, vn, vy, h4, h5⟩ := h3 j hj
  exact ⟨vt, vn, vy, h4.below hb, h5.below hb⟩

/-- The slices of a node that is a copy, in blocks behind G. -/
structure NO (w : World) (G : Nat) (d : Nd) (vt vn vy : Value) : Prop where
  text : BO w G vt d.text
  names : SO w G vn d.names
  types : ICp w G vy d.types
theorem NO.nv {w : World} {G : Nat} {d : Nd} {vt vn vy : Value} (h : NO w G d vt vn vy) : NV w d vt vn vy := ⟨h.text.bs, h.names.ss, h.types.is⟩
theorem NO.below {w w' : World} {G : Nat} {d : Nd} {vt vn vy : Value} (h : NO w G d vt vn vy) (hb : Below w.heap.size w w') : NO w' G d vt vn vy := ⟨h.text.below hb, h.names.below hb, h.types.below hb⟩
theorem NO.set {w : World} {G k : Nat} {d : Nd} {vt vn vy x : Value} (h : NO w G d vt vn vy) : NO (w.setCell ⟨G, k, none⟩ x) G d vt vn vy := ⟨h.text.set, h.names.set, h.types.set⟩

theorem NO.setAt {w : World} {G G' k : Nat} {d : Nd} {vt vn vy x : Value} (h : NO w G d vt vn vy) (hG : G' ≤ G) : NO (w.setCell ⟨G', k, none⟩ x) G d vt vn vy := ⟨h.text.setAt hG, h.names.setAt hG, h.types.setAt hG⟩
theorem NO.lower {w : World} {G G' : Nat} {d : Nd} {vt vn vy : Value} (h : NO w G d vt vn vy) (hG : G' ≤ G) : NO w G' d vt vn vy := by
  obtain ⟨h1, ⟨b, c, h2, h3, h4, h4z, h5⟩, ⟨b', c', h6, h7⟩⟩ := h
  exact ⟨h1.lower hG, ⟨b, c, by omega, h3, h4, h4z, h5⟩, ⟨b', c', by omega, h7⟩⟩

end Go.Proofs.YtbjaccalloipcaaDoor

/-
  What a layout is shown as.
-/
import Derived.Test.YtaapababeecmeaaDoorJShowLayoutSLY
import Derived.Test.YtaapababeecmeaaDoorJShowLayoutAP
namespace Go.Proofs.YtaapababeecmeaaDoor
open Go.RowKit

theorem dg_lo (k : Nat) (h : k < 16) : dg k < 256 := by unfold dg; split <;> omega
theorem qb_lo {c : Nat} (h : c < 256) : Lo (qb c) := by
  unfold qb
  split
  · exact Lo.cons (by decide) (Lo.one h)
  · split
    · refine Lo.app (Lo.app (Lo.cons (by decide) (Lo.cons (by decide) (Lo.one (by decide)))) ?_) (Lo.one (by decide))
      unfold hexL
      split
      · exact Lo.one (dg_lo _ (by omega))
      · exact Lo.cons (dg_lo _ (by omega)) (Lo.one (dg_lo _ (by omega)))
    · exact Lo.one h
theorem quoted_lo (s : ByteArray) : Lo (quoted s) := by
  unfold quoted
  split
  · refine Lo.app ?_ (Lo.one (by decide))
    generalize s.size = k
    induction k with
    | zero => exact Lo.one (by decide)
    | succ k ih => exact Lo.app ih (qb_lo (s.get! _).toNat_lt)
  · exact Lo.nil
theorem quoted_le (s : ByteArray) : (quoted s).length ≤ 6 * s.size + 2 := by
  unfold quoted
  split
  · rw [List.length_append]; have := qTo_le s s.size; simp only [List.length_singleton]; omega
  · simp

/-- The sign of a cell of this cost. -/
def csg (c : Int) : Nat := if c = 0 then 35 else if c = 1 then 46 else 48 + c.toNat
/-- The sign of a target of this kind. -/
def tsg (k : Int) : Nat := if k = 0 then 83 else 67
/-- A cell's sign, once the first k targets are there. -/
def sgTo (d : Ly) (c : Nat) : Nat → Nat
  | 0 => csg (d.cost.getD c 0)
  | k + 1 => if (d.targets.getD k .zero).cell = c then tsg (d.targets.getD k .zero).kind else sgTo d c k
def sg (d : Ly) (c : Nat) : Nat := sgTo d c d.targets.length
/-- The signs of the first c cells, with the ends of their lines. -/
def gridTo (d : Ly) : Nat → List Nat
  | 0 => []
  | c + 1 => gridTo d c ++ ([sg d c] ++ (if c % d.w.toNat = d.w.toNat - 1 then [10] else []))
def decL (n : Nat) : List Nat := if n < 10 then [48 + n] else [48 + n / 10, 48 + n % 10]
def wordL (k : Int) : List Nat := if k = 0 then [115, 116, 97, 116, 105, 111, 110, 32] else [99, 104, 97, 114, 103, 101, 114, 32]
/-- What stands behind a target's name. -/
def tailL (X : Nat) (c : Nat) : List Nat := [32] ++ decL (c % X) ++ [32] ++ decL (c / X) ++ [10]
def lineL (d : Ly) (t : Tg) : List Nat := wordL t.kind ++ quoted t.name ++ tailL d.w.toNat t.cell.toNat
def linesTo (d : Ly) : Nat → List Nat
  | 0 => gridTo d (d.w * d.h).toNat
  | k + 1 => linesTo d k ++ lineL d (d.targets.getD k .zero)
open Classical in
noncomputable def shL (d : Ly) : List Nat := if LyOk d then linesTo d d.targets.length else []

theorem sgTo_lo {d : Ly} (h : LyOk d) {c : Nat} (hc : c < d.cost.length) (k : Nat) : sgTo d c k < 256 := by
  induction k with
  | zero =>
    show csg _ < 256
    have h1 := (h.cells c hc).c1
    unfold csg
    split
    · decide
    · split
      · decide
      · omega
  | succ k ih =>
    unfold sgTo
    split
    · unfold tsg; split <;> decide
    · exact ih
theorem decL_lo {n : Nat} (h : n < 100) : Lo (decL n) := by
  unfold decL
  split
  · exact Lo.one (by omega)
  · exact Lo.cons (by omega) (Lo.one (by omega))
theorem decL_le (n : Nat) : (decL n).length ≤ 2 := by unfold decL; split <;> simp
theorem wordL_lo (k : Int) : Lo (wordL k) := by unfold wordL; split <;> (intro x hx; simp at hx; omega)
theorem wordL_le (k : Int) : (wordL k).length = 8 := by unfold wordL; split <;> rfl
theorem tailL_lo {X c : Nat} (h1 : c % X < 100) (h2 : c / X < 100) : Lo (tailL X c) := Lo.app (Lo.app (Lo.app (Lo.app (Lo.one (by decide)) (decL_lo h1)) (Lo.one (by decide))) (decL_lo h2)) (Lo.one (by decide))
theorem tailL_le (X c : Nat) : (tailL X c).length ≤ 7 := by
  unfold tailL
  have := decL_le (c % X)
  have := decL_le (c / X)
  simp only [List.length_append, List.length_singleton]
  omega
theorem gridTo_le (d : Ly) (c : Nat) : (gridTo d c).length ≤ 2 * c := by
  induction c with
  | zero => exact Nat.le_refl _
  | succ c ih =>
    unfold gridTo
    rw [List.length_append, List.length_append, List.length_singleton]
    split
    · rw [List.length_singleton]; omega
    · rw [List.length_nil]; omega
theorem gridTo_lo {d : Ly} (h : LyOk d) {c : Nat} (hc : c ≤ d.cost.length) : Lo (gridTo d c) := by
  induction c with
  | zero => exact Lo.nil
  | succ c ih =>
    refine Lo.app (ih (by omega)) (Lo.app (Lo.one (sgTo_lo h (by omega) _)) ?_)
    split
    · exact Lo.one (by decide)
    · exact Lo.nil
/-- A target's place has two numbers below 40. -/
theorem place_lt {d : Ly} (h : LyOk d) {t : Tg} (ht : TgOk (d.w * d.h) t) : t.cell.toNat % d.w.toNat < 40 ∧ t.cell.toNat / d.w.toNat < 40 := by
  have h1 := h.w0
  have h2 := h.w1
  have h3 := h.h0
  have h4 := h.h1
  have h5 := ht.c0
  have h6 := ht.c1
  obtain ⟨X, hX⟩ : ∃ X : Nat, d.w = X := ⟨d.w.toNat, by omega⟩
  obtain ⟨Y, hY⟩ : ∃ Y : Nat, d.h = Y := ⟨d.h.toNat, by omega⟩
  obtain ⟨c, hc⟩ : ∃ c : Nat, t.cell = c := ⟨t.cell.toNat, by omega⟩
  rw [hX, hY, hc] at h6
  rw [hX, hc, Int.toNat_natCast, Int.toNat_natCast]
  rw [hX] at h1 h2
  rw [hY] at h3 h4
  have h7 : c < X * Y := by have e : ((X * Y : Nat) : Int) = (X : Int) * Y := Int.natCast_mul X Y; omega
  constructor
  · have := Nat.mod_lt c (show 0 < X by omega); omega
  · have := Nat.div_lt_of_lt_mul h7; omega
theorem lineL_lo {d : Ly} (h : LyOk d) {t : Tg} (ht : TgOk (d.w * d.h) t) : Lo (lineL d t) := by
  obtain ⟨h1, h2⟩ := place_lt h ht
  exact Lo.app (Lo.app (wordL_lo _) (quoted_lo _)) (tailL_lo (by omega) (by omega))
theorem lineL_le {d : Ly} {t : Tg} {n : Int} (ht : TgOk n t) : (lineL d t).length ≤ 400 := by
  have h1 := quoted_le t.name
  have h2 := ht.s1
  have h3 := wordL_le t.kind
  have h4 := tailL_le d.w.toNat t.cell.toNat
  unfold lineL
  rw [List.length_append, List.length_append]
  omega
theorem cells_le {d : Ly} (h : LyOk d) : d.w * d.h ≤ 1600 ∧ 0 ≤ d.w * d.h := by
  have h1 := h.w0
  have h2 := h.w1
  have h3 := h.h0
  have h4 := h.h1
  refine ⟨?_, Int.mul_nonneg (by omega) (by omega)⟩
  have : d.w * d.h ≤ 40 * 40 := Int.mul_le_mul (by omega) (by omega) (by omega) (by omega)
  omega
theorem linesTo_lo {d : Ly} (h : LyOk d) {k : Nat} (hk : k ≤ d.targets.length) : Lo (linesTo d k) := by
  induction k with
  | zero => exact gridTo_lo h (by have := h.cl; have := cells_le h; omega)
  | succ k ih => exact Lo.app (ih (by omega)) (lineL_lo h (h.tg.each k (by omega)))
theorem linesTo_le {d : Ly} (h : LyOk d) {k : Nat} (hk : k ≤ d.targets.length) : (linesTo d k).length ≤ 3200 + 400 * k := by
  induction k with
  | zero =>
    have h1 := gridTo_le d (d.w * d.h).toNat
    have h2 := cells_le h
    show (gridTo d _).length ≤ _
    omega
  | succ k ih =>
    show (linesTo d k ++ _).length ≤ _
    rw [List.length_append]
    have h1 := ih (by omega)
    have h2 := lineL_le (d := d) (h.tg.each k (by omega))
    omega
theorem shL_lo (d : Ly) : Lo (shL d) := by
  unfold shL
  split
  · exact linesTo_lo (by assumption) (Nat.le_refl _)
  · exact Lo.nil
theorem shL_le (d : Ly) : (shL d).length ≤ 15200 := by
  unfold shL
  split
  · rename_i h
    have h1 := linesTo_le h (Nat.le_refl _)
    have h2 := h.tg.len
    omega
  · simp

/-- The signs of a part of a row. -/
def rowL (d : Ly) (a : Nat) : Nat → List Nat
  | 0 => []
  | j + 1 => rowL d a j ++ [sg d (a + j)]
theorem rowL_length (d : Ly) (a j : Nat) : (rowL d a j).length = j := by
  induction j with
  | zero => rfl
  | succ j ih => unfold rowL; rw [List.length_append, ih, List.length_singleton]
theorem rowL_getD (d : Ly) (a j i : Nat) (h : i < j) : (rowL d a j).getD i 0 = sg d (a + i) := by
  induction j with
  | zero => omega
  | succ j ih =>
    unfold rowL
    by_cases e : i < j
    · rw [List.getD_eq_getElem?_getD, List.getElem?_append_left (by rw [rowL_length]; exact e), ← List.getD_eq_getElem?_getD]; exact ih e
    · have : i = j := by omega
      subst this
      rw [List.getD_eq_getElem?_getD, List.getElem?_append_right (by rw [rowL_length]; exact Nat.le_refl _), rowL_length, Nat.sub_self]; rfl
theorem gridTo_part (d : Ly) (X r : Nat) (hX : d.w.toNat = X) (j : Nat) (hj : j < X) : gridTo d (r * X + j) = gridTo d (r * X) ++ rowL d (r * X) j := by
  induction j with
  | zero => rw [Nat.add_zero]; unfold rowL; rw [List.append_nil]
  | succ j ih =>
    rw [← Nat.add_assoc]
    show gridTo d (r * X + j) ++ _ = _
    rw [ih (by omega), hX, Nat.add_comm (r * X) j, Nat.add_mul_mod_self_right, Nat.mod_eq_of_lt (by omega), if_neg (by omega), List.append_nil, List.append_assoc, Nat.add_comm j (r * X)]
    rfl
/-- One row more. -/
theorem gridTo_row (d : Ly) (X r : Nat) (hX : d.w.toNat = X) (h0 : 0 < X) : gridTo d ((r + 1) * X) = gridTo d (r * X) ++ rowL d (r * X) X ++ [10] := by
  obtain ⟨j, rfl⟩ : ∃ j, X = j + 1 := ⟨X - 1, by omega⟩
  have e : (r + 1) * (j + 1) = (r * (j + 1) + j) + 1 := by rw [Nat.add_mul, Nat.one_mul, Nat.add_assoc]
  rw [e]
  show gridTo d (r * (j + 1) + j) ++ _ = _
  rw [gridTo_part d (j + 1) r hX j (by omega), hX, Nat.add_comm (r * (j + 1)) j, Nat.add_mul_mod_self_right, Nat.mod_eq_of_lt (by omega), if_pos (by omega), Nat.add_comm j (r * (j + 1))]
  show _ = _ ++ (rowL d _ j ++ [sg d (r * (j + 1) + j)]) ++ [10]
  simp only [List.append_assoc]
end Go.Proofs.YtaapababeecmeaaDoor

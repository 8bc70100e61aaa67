/-
  Plainly: valid tables.
  Plainly: the nearest target of a kind.
-/
import Derived.Test.YtpnocklldlacjaaDoorJNearestTC
import Derived.Test.YtpnocklldlacjaaDoorJNearestSLT
namespace Go.Proofs.YtpnocklldlacjaaDoor
open Go.RowKit

/-- Tables are valid. -/
structure TbOk (d : Tb) : Prop where
  w0 : 1 ≤ d.w
  w1 : d.w ≤ 40
  h0 : 1 ≤ d.h
  h1 : d.h ≤ 40
  tg : TgsOk (d.w * d.h) d.targets
  dl : d.dist.length = d.targets.length
  hl : d.hop.length = d.targets.length
  rows : ∀ i, i < d.targets.length → RowOk d.w d.h (d.targets.getD i .zero).cell (d.dist.getD i []) (d.hop.getD i [])
end Go.Proofs.YtpnocklldlacjaaDoor

namespace Go.Proofs.YtpnocklldlacjaaDoor
open Go.RowKit

/-- The distance of a cell from a target. -/
def dsT (d : Tb) (i c : Nat) : Int := (d.dist.getD i []).getD c 0
/-- The nearest of the first n targets, or -1. -/
def bestN (d : Tb) (kind : Int) (c : Nat) : Nat → Int
  | 0 => -1
  | n + 1 => if (d.targets.getD n .zero).kind = kind ∧ 0 ≤ dsT d n c ∧ (bestN d kind c n < 0 ∨ dsT d n c < dsT d (bestN d kind c n).toNat c) then n else bestN d kind c n
theorem bestN_lo (d : Tb) (kind : Int) (c : Nat) : ∀ n, -1 ≤ bestN d kind c n ∧ bestN d kind c n < n
  | 0 => by unfold bestN; omega
  | n + 1 => by
    have ih := bestN_lo d kind c n
    unfold bestN
    split <;> omega
/-- What may be asked. -/
def NrIn (d : Tb) (kind cell : Int) : Prop := TbOk d ∧ 0 ≤ kind ∧ kind ≤ 1 ∧ 0 ≤ cell ∧ cell < d.w * d.h
/-- What Nearest answers. -/
structure NrAns (d : Tb) (kind cell a b : Int) : Prop where
  bad : ¬ NrIn d kind cell → a = 0 ∧ b = 1
  lost : NrIn d kind cell → bestN d kind cell.toNat d.targets.length < 0 → a = 0 ∧ b = 10
  good : NrIn d kind cell → 0 ≤ bestN d kind cell.toNat d.targets.length → a = bestN d kind cell.toNat d.targets.length ∧ b = 0
theorem NrAns.one {d : Tb} {kind cell a b a' b' : Int} (h : NrAns d kind cell a b) (h' : NrAns d kind cell a' b') : a = a' ∧ b = b' := by
  by_cases q : NrIn d kind cell
  · by_cases r : bestN d kind cell.toNat d.targets.length < 0
    · have h1 := h.lost q r
      have h2 := h'.lost q r
      omega
    · have h1 := h.good q (by omega)
      have h2 := h'.good q (by omega)
      omega
  · have h1 := h.bad q
    have h2 := h'.bad q
    omega
/-- A call that answers so. -/
def NrRes (d : Tb) (kind cell : Int) (e : Ending) : Prop := ∃ a b : Int, e = .returned (.tuple #[.int .i64 a, .int .i64 b]) ∧ NrAns d kind cell a b
theorem NrRes.no {d : Tb} {kind cell : Int} (h : ¬ NrIn d kind cell) : NrRes d kind cell (.returned (.tuple #[.int .i64 0, .int .i64 1])) :=
  ⟨0, 1, rfl, fun _ => ⟨rfl, rfl⟩, fun q => absurd q h, fun q => absurd q h⟩
theorem NrRes.lost {d : Tb} {kind cell : Int} (h : NrIn d kind cell) (hb : bestN d kind cell.toNat d.targets.length < 0) : NrRes d kind cell (.returned (.tuple #[.int .i64 0, .int .i64 10])) :=
  ⟨0, 10, rfl, fun q => absurd h q, fun _ _ => ⟨rfl, rfl⟩, fun _ q => by omega⟩
theorem NrRes.good {d : Tb} {kind cell : Int} (h : NrIn d kind cell) {b : Int} (hb : bestN d kind cell.toNat d.targets.length = b) (h0 : 0 ≤ b) : NrRes d kind cell (.returned (.tuple #[.int .i64 b, .int .i64 0])) :=
  ⟨b, 0, rfl, fun q => absurd h q, fun _ q => by omega, fun _ _ => ⟨hb.symm, rfl⟩⟩
end Go.Proofs.YtpnocklldlacjaaDoor

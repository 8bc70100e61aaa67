/-
  Plainly: exits that are among possible ones.
-/
import Derived.Test.YtaapababeecmeaaDoorJShowLayoutIL2
import Derived.Test.YtaapababeecmeaaDoorJShowLayoutSLY
namespace Go.Proofs.YtaapababeecmeaaDoor
open Go.RowKit

/-- A sum of ways. -/
def pv (b0 b1 b2 b3 : Bool) : Int := (if b0 then 1 else 0) + (if b1 then 2 else 0) + (if b2 then 4 else 0) + (if b3 then 8 else 0)
theorem accw_pv (d : Ly) (c : Nat) : accw d c [0, 1, 2, 3] = pv (okw d c 0) (okw d c 1) (okw d c 2) (okw d c 3) := by
  unfold accw
  simp only [List.foldl_cons, List.foldl_nil]
  show (if okw d c 3 then bits .or .i64 (if okw d c 2 then bits .or .i64 (if okw d c 1 then bits .or .i64 (if okw d c 0 then bits .or .i64 0 1 else 0) 2 else if okw d c 0 then bits .or .i64 0 1 else 0) 4 else if okw d c 1 then bits .or .i64 (if okw d c 0 then bits .or .i64 0 1 else 0) 2 else if okw d c 0 then bits .or .i64 0 1 else 0) 8 else if okw d c 2 then bits .or .i64 (if okw d c 1 then bits .or .i64 (if okw d c 0 then bits .or .i64 0 1 else 0) 2 else if okw d c 0 then bits .or .i64 0 1 else 0) 4 else if okw d c 1 then bits .or .i64 (if okw d c 0 then bits .or .i64 0 1 else 0) 2 else if okw d c 0 then bits .or .i64 0 1 else 0) = _
  generalize okw d c 0 = b0
  generalize okw d c 1 = b1
  generalize okw d c 2 = b2
  generalize okw d c 3 = b3
  revert b0 b1 b2 b3
  decide +kernel

theorem andNot_small (n : Nat) (hn : n < 16) (b0 b1 b2 b3 : Bool) : (bits .andNot .i64 (n : Int) (pv b0 b1 b2 b3) != 0) = !((!bitAt n 0 || b0) && (!bitAt n 1 || b1) && (!bitAt n 2 || b2) && (!bitAt n 3 || b3)) := by
  have : ∀ n : Fin 16, ∀ b0 b1 b2 b3 : Bool, (bits .andNot .i64 (n.1 : Int) (pv b0 b1 b2 b3) != 0) = !((!bitAt n.1 0 || b0) && (!bitAt n.1 1 || b1) && (!bitAt n.1 2 || b2) && (!bitAt n.1 3 || b3)) := by decide +kernel
  exact this ⟨n, hn⟩ b0 b1 b2 b3
theorem pv_le (b0 b1 b2 b3 : Bool) : 0 ≤ pv b0 b1 b2 b3 ∧ pv b0 b1 b2 b3 ≤ 15 := by
  revert b0 b1 b2 b3; decide
theorem and_not_le {x p : BitVec 64} (h : x &&& ~~~p = 0#64) : x.toNat ≤ p.toNat := by
  have e : x = x &&& p := by
    apply BitVec.eq_of_getLsbD_eq
    intro i hi
    have := congrArg (fun y => y.getLsbD i) h
    simp only [BitVec.getLsbD_and, BitVec.getLsbD_not, BitVec.getLsbD_zero] at this
    rw [BitVec.getLsbD_and]
    cases hx : x.getLsbD i <;> cases hp : p.getLsbD i <;> simp_all
  rw [e, BitVec.toNat_and]
  exact Nat.and_le_right
theorem andNot_big (e : Int) (he : W64 e) (p : Int) (hp0 : 0 ≤ p) (hp : p ≤ 15) (h : ¬ (0 ≤ e ∧ e ≤ 15)) : (bits .andNot .i64 e p != 0) = true := by
  have hb := he.le
  rw [bne_iff_ne]
  intro h0
  have h1 : (BitVec.ofInt 64 e &&& ~~~(BitVec.ofInt 64 p)) = 0#64 := by
    have h2 : IntKind.i64.wrap ((BitVec.ofInt 64 e &&& ~~~(BitVec.ofInt 64 p)).toNat : Int) = 0 := h0
    have hlt := (BitVec.ofInt 64 e &&& ~~~(BitVec.ofInt 64 p)).isLt
    rw [IntKind.wrap_i64] at h2
    apply BitVec.eq_of_toNat_eq
    show _ = 0
    omega
  have h3 := and_not_le h1
  rw [BitVec.toNat_ofInt, BitVec.toNat_ofInt] at h3
  omega
end Go.Proofs.YtaapababeecmeaaDoor

/-
  Plainly: what the children of a node may be (l2shapes, l2fits), held against validCount and mayStand.
-/
import Derived.Test.YtbjaccalloipcaaDoorJVtVK2
import Derived.Test.YtbjaccalloipcaaDoorJVtVK3
namespace Go.Proofs.YtbjaccalloipcaaDoor
open Go.RowKit

def bx (l : List UInt8) : ByteArray := ⟨l.toArray⟩
theorem bx_size (l : List UInt8) : (bx l).size = l.length := by simp [bx, ByteArray.size]
theorem bx_get (l : List UInt8) (i : Nat) (h : i < l.length) : (bx l).get! i = l.getD i 0 := by
  show l.toArray[i]! = _
  rw [getElem!_pos _ i (by simpa using h)]
  simp [List.getD, h]
theorem bx_inj {a b : List UInt8} (h : bx a = bx b) : a = b := by
  have := congrArg (fun x : ByteArray => x.data.toList) h
  simpa [bx] using this
/-- k signs alike. -/
def mny (c : UInt8) (k : Nat) : ByteArray := bx (List.replicate k c)
theorem mny_size (c : UInt8) (k : Nat) : (mny c k).size = k := by rw [mny, bx_size, List.length_replicate]
theorem mny_get (c : UInt8) (k i : Nat) (h : i < k) : (mny c k).get! i = c := by
  rw [mny, bx_get _ _ (by simpa using h)]; simp [List.getD, h]
/-- What the children of a node may be (l2shapes). -/
def shp (k c : Int) : List ByteArray :=
  if k = 0 then [mny 109 c.toNat] else if k = 1 then [bx [98]] else if k = 2 then [mny 115 c.toNat]
  else if k = 3 ∨ k = 21 ∨ k = 22 then [bx [101]] else if k = 4 then (if 10 < c then [] else [mny 101 c.toNat])
  else if k = 5 then [bx [101, 101, 98]] else if k = 6 then [bx [101, 98], bx [101, 98, 105]]
  else if k = 7 ∨ k = 11 ∨ k = 12 ∨ k = 20 then [bx [101, 101]] else if k = 8 ∨ k = 9 ∨ k = 10 then [bx [101, 101], bx [101, 101, 101, 101]]
  else if k = 13 then [bx [101, 101, 101], bx [101, 101, 101, 101, 101]] else if k = 14 ∨ k = 15 then [bx [101, 101, 101]] else [bx []]
/-- Whether a kind is what a sign asks for (l2fits). -/
def fit (c : Nat) (k : Int) : Bool := if c = 101 then isExpr k else if c = 98 then k == 2 else if c = 115 then isStat k else if c = 109 then k == 1 || isStat k else k == 2 || k == 6
/-- The last shape of a length. -/
def pkS (n : Nat) : List ByteArray → ByteArray → ByteArray
  | [], s => s
  | x :: r, s => pkS n r (if x.size = n then x else s)
def qm : ByteArray := bx [63]

theorem ne_qm_size {a : List UInt8} (h : a.length ≠ 1) : bx a ≠ qm := fun e => h (by rw [bx_inj e]; rfl)
theorem mny_ne (c : UInt8) (k : Nat) (h : c ≠ 63) : mny c k ≠ qm := by
  intro e
  have := bx_inj e
  cases k with
  | zero => simp at this
  | succ k => cases k with
    | zero => simp at this; exact h this
    | succ k => simp [List.replicate] at this

/-- One shape. -/
theorem pkS1 (n : Nat) (x : ByteArray) (hx : x ≠ qm) : (pkS n [x] qm).size = n ∧ pkS n [x] qm ≠ qm ↔ x.size = n := by
  simp only [pkS]
  by_cases h : x.size = n
  · rw [if_pos h]; exact ⟨fun _ => h, fun _ => ⟨h, hx⟩⟩
  · rw [if_neg h]; exact ⟨fun ⟨_, h2⟩ => absurd rfl h2, fun h2 => absurd h2 h⟩
theorem pkS2 (n : Nat) (x y : ByteArray) (hx : x ≠ qm) (hy : y ≠ qm) : (pkS n [x, y] qm).size = n ∧ pkS n [x, y] qm ≠ qm ↔ (x.size = n ∨ y.size = n) := by
  simp only [pkS]
  by_cases h : y.size = n
  · rw [if_pos h]; exact ⟨fun _ => .inr h, fun _ => ⟨h, hy⟩⟩
  · rw [if_neg h]
    by_cases h' : x.size = n
    · rw [if_pos h']; exact ⟨fun _ => .inl h', fun _ => ⟨h', hx⟩⟩
    · rw [if_neg h']; exact ⟨fun ⟨_, h2⟩ => absurd rfl h2, fun h2 => by omega⟩

/-- The shape that is chosen. -/
def shpOf (k c : Int) : ByteArray := pkS c.toNat (shp k c) qm

set_option maxHeartbeats 1000000 in
theorem shape_count (k c : Int) (hk : 0 ≤ k) (hk2 : k ≤ 22) (hc : 0 ≤ c) : ((shpOf k c).size = c.toNat ∧ shpOf k c ≠ qm) ↔ vCnt k c = true := by
  unfold shpOf
  rcases kinds k with g | g
  · rcases g with rfl | rfl | rfl | rfl | rfl | rfl | rfl | rfl | rfl | rfl | rfl | rfl | rfl | rfl | rfl | rfl | rfl | rfl | rfl | rfl | rfl | rfl | rfl
    case inr.inr.inr.inr.inl =>
      by_cases h10 : 10 < c
      · have e : shp 4 c = [] := by simp [shp, h10]
        rw [e]; simp [pkS, vCnt]; omega
      · have e : shp 4 c = [mny 101 c.toNat] := by simp [shp, h10]
        rw [e, pkS1 _ _ (mny_ne _ _ (by decide)), mny_size]; simp [vCnt]; omega
    all_goals first
      | (simp only [shp, Int.reduceEq, or_false, or_true, or_self, if_true, if_false]; rw [pkS1 _ _ (mny_ne _ _ (by decide)), mny_size]; simp [vCnt]; omega)
      | (simp only [shp, Int.reduceEq, or_false, or_true, or_self, if_true, if_false]; rw [pkS1 _ _ (ne_qm_size (by decide)), bx_size]; simp [vCnt]; omega)
      | (simp only [shp, Int.reduceEq, or_false, or_true, or_self, if_true, if_false]; rw [pkS1 _ _ (fun e => absurd (bx_inj e) (by decide)), bx_size]; simp [vCnt]; omega)
      | (simp only [shp, Int.reduceEq, or_false, or_true, or_self, if_true, if_false]; rw [pkS2 _ _ _ (ne_qm_size (by decide)) (ne_qm_size (by decide)), bx_size, bx_size]; simp [vCnt]; omega)
  · omega

theorem get_101 (l : List UInt8) (i : Nat) (h : i < l.length) (hl : ∀ x ∈ l, x = 101) (k : Int) : fit ((bx l).get! i).toNat k = isExpr k := by
  have e : (bx l).get! i = 101 := by rw [bx_get l i h]; refine hl _ ?_; simp [List.getD, h]
  rw [e]; rfl

theorem i1 {i : Nat} (h : i < (1 : Int).toNat) : i = 0 := by have : (1 : Int).toNat = 1 := rfl; omega
theorem i2 {i : Nat} (h : i < (2 : Int).toNat) : i = 0 ∨ i = 1 := by have : (2 : Int).toNat = 2 := rfl; omega
theorem i3 {i : Nat} (h : i < (3 : Int).toNat) : i = 0 ∨ i = 1 ∨ i = 2 := by have : (3 : Int).toNat = 3 := rfl; omega
theorem i4 {i : Nat} (h : i < (4 : Int).toNat) : i = 0 ∨ i = 1 ∨ i = 2 ∨ i = 3 := by have : (4 : Int).toNat = 4 := rfl; omega
theorem i5 {i : Nat} (h : i < (5 : Int).toNat) : i = 0 ∨ i = 1 ∨ i = 2 ∨ i = 3 ∨ i = 4 := by have : (5 : Int).toNat = 5 := rfl; omega

set_option maxHeartbeats 2000000 in
theorem shape_fits (k c : Int) (hv : vCnt k c = true) (i : Nat) (hi : i < c.toNat) (kk : Int) : fit ((shpOf k c).get! i).toNat kk = mSt k i kk := by
  unfold shpOf
  rcases kinds k with g | g
  · rcases g with rfl | rfl | rfl | rfl | rfl | rfl | rfl | rfl | rfl | rfl | rfl | rfl | rfl | rfl | rfl | rfl | rfl | rfl | rfl | rfl | rfl | rfl | rfl
    case inl =>
      have e : pkS c.toNat (shp 0 c) qm = mny 109 c.toNat := by simp [shp, pkS, mny_size]
      rw [e, mny_get _ _ _ hi]; rfl
    case inr.inr.inl =>
      have e : pkS c.toNat (shp 2 c) qm = mny 115 c.toNat := by simp [shp, pkS, mny_size]
      rw [e, mny_get _ _ _ hi]; rfl
    case inr.inr.inr.inr.inl =>
      have h10 : ¬ 10 < c := by simp [vCnt] at hv; omega
      have e : pkS c.toNat (shp 4 c) qm = mny 101 c.toNat := by simp [shp, pkS, mny_size, h10]
      rw [e, mny_get _ _ _ hi]; rfl
    case inr.inr.inr.inr.inr.inr.inl =>
      have hc : c = 2 ∨ c = 3 := by simpa [vCnt] using hv
      rcases hc with rfl | rfl
      · have : i = 0 ∨ i = 1 := by have : (2 : Int).toNat = 2 := rfl; omega
        rcases this with rfl | rfl
        · rfl
        · show (kk == 2) = (kk == 2 || (false && (kk == 6))); simp
      · have : i = 0 ∨ i = 1 ∨ i = 2 := by have : (3 : Int).toNat = 3 := rfl; omega
        rcases this with rfl | rfl | rfl
        · rfl
        · show (kk == 2) = (kk == 2 || (false && (kk == 6))); simp
        · rfl
    all_goals first
      | (simp [vCnt] at hv; subst hv; obtain rfl := i1 hi; rfl)
      | (simp [vCnt] at hv; subst hv; rcases i2 hi with rfl | rfl <;> rfl)
      | (simp [vCnt] at hv; subst hv; rcases i3 hi with rfl | rfl | rfl <;> rfl)
      | (simp [vCnt] at hv; rcases hv with rfl | rfl
         · rcases i2 hi with rfl | rfl <;> rfl
         · rcases i4 hi with rfl | rfl | rfl | rfl <;> rfl)
      | (simp [vCnt] at hv; rcases hv with rfl | rfl
         · rcases i3 hi with rfl | rfl | rfl <;> rfl
         · rcases i5 hi with rfl | rfl | rfl | rfl | rfl <;> rfl)
      | (simp [vCnt] at hv; subst hv; exact absurd hi (Nat.not_lt_zero _))
  · rw [vCnt_none k c g] at hv; cases hv
end Go.Proofs.YtbjaccalloipcaaDoor

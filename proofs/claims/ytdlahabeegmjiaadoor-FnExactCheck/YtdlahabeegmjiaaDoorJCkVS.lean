/-
  Plainly: what the children of a node may be (l2shapes, l2fits), held against validCount and mayStand.
  The walks of l2fits, l2many.
  The walk of l2shapes.
-/
import Derived.Test.YtdlahabeegmjiaaDoorJCkVK2
import Derived.Test.YtdlahabeegmjiaaDoorJCkND0
import Derived.Test.YtdlahabeegmjiaaDoorJCkND4
namespace Go.Proofs.YtdlahabeegmjiaaDoor
open Go.RowKit

def bx (l : List UInt8) : ByteArray := ⟨l.toArray⟩
theorem bx_size (l : List UInt8) : (bx l).size = l.length := by simp [bx, ByteArray.size]
theorem bx_get (l : List UInt8) (i : Nat) (h : i < l.length) : (bx l).get! i = l.getD i 0 := by
  show l.toArray[i]! = _
  rw [getElem!_pos _ i (by simpa using h)]
  simp [List.getD, h]
theorem bx_inj {a b : List UInt8} (h : bx a = bx b) : a = b := by
  have := congrArg (fun x : ByteArray => x.data.toList) h
  simpa [bx] using this
/-- k signs alike. -/
def mny (c : UInt8) (k : Nat) : ByteArray := bx (List.replicate k c)
theorem mny_size (c : UInt8) (k : Nat) : (mny c k).size = k := by rw [mny, bx_size, List.length_replicate]
theorem mny_get (c : UInt8) (k i : Nat) (h : i < k) : (mny c k).get! i = c := by
  rw [mny, bx_get _ _ (by simpa using h)]; simp [List.getD, h]
/-- What the children of a node may be (l2shapes). -/
def shp (k c : Int) : List ByteArray :=
  if k = 0 then [mny 109 c.toNat] else if k = 1 then [bx [98]] else if k = 2 then [mny 115 c.toNat]
  else if k = 3 ∨ k = 21 ∨ k = 22 then [bx [101]] else if k = 4 then (if 10 < c then [] else [mny 101 c.toNat])
  else if k = 5 then [bx [101, 101, 98]] else if k = 6 then [bx [101, 98], bx [101, 98, 105]]
  else if k = 7 ∨ k = 11 ∨ k = 12 ∨ k = 20 then [bx [101, 101]] else if k = 8 ∨ k = 9 ∨ k = 10 then [bx [101, 101], bx [101, 101, 101, 101]]
  else if k = 13 then [bx [101, 101, 101], bx [101, 101, 101, 101, 101]] else if k = 14 ∨ k = 15 then [bx [101, 101, 101]] else [bx []]
/-- Whether a kind is what a sign asks for (l2fits). -/
def fit (c : Nat) (k : Int) : Bool := if c = 101 then isExpr k else if c = 98 then k == 2 else if c = 115 then isStat k else if c = 109 then k == 1 || isStat k else k == 2 || k == 6
/-- The last shape of a length. -/
def pkS (n : Nat) : List ByteArray → ByteArray → ByteArray
  | [], s => s
  | x :: r, s => pkS n r (if x.size = n then x else s)
def qm : ByteArray := bx [63]

theorem ne_qm_size {a : List UInt8} (h : a.length ≠ 1) : bx a ≠ qm := fun e => h (by rw [bx_inj e]; rfl)
theorem mny_ne (c : UInt8) (k : Nat) (h : c ≠ 63) : mny c k ≠ qm := by
  intro e
  have := bx_inj e
  cases k with
  | zero => simp at this
  | succ k => cases k with
    | zero => simp at this; exact h this
    | succ k => simp [List.replicate] at this

/-- One shape. -/
theorem pkS1 (n : Nat) (x : ByteArray) (hx : x ≠ qm) : (pkS n [x] qm).size = n ∧ pkS n [x] qm ≠ qm ↔ x.size = n := by
  simp only [pkS]
  by_cases h : x.size = n
  · rw [if_pos h]; exact ⟨fun _ => h, fun _ => ⟨h, hx⟩⟩
  · rw [if_neg h]; exact ⟨fun ⟨_, h2⟩ => absurd rfl h2, fun h2 => absurd h2 h⟩
theorem pkS2 (n : Nat) (x y : ByteArray) (hx : x ≠ qm) (hy : y ≠ qm) : (pkS n [x, y] qm).size = n ∧ pkS n [x, y] qm ≠ qm ↔ (x.size = n ∨ y.size = n) := by
  simp only [pkS]
  by_cases h : y.size = n
  · rw [if_pos h]; exact ⟨fun _ => .inr h, fun _ => ⟨h, hy⟩⟩
  · rw [if_neg h]
    by_cases h' : x.size = n
    · rw [if_pos h']; exact ⟨fun _ => .inl h', fun _ => ⟨h', hx⟩⟩
    · rw [if_neg h']; exact ⟨fun ⟨_, h2⟩ => absurd rfl h2, fun h2 => by omega⟩

/-- The shape that is chosen. -/
def shpOf (k c : Int) : ByteArray := pkS c.toNat (shp k c) qm

set_option maxHeartbeats 1000000 in
theorem shape_count (k c : Int) (hk : 0 ≤ k) (hk2 : k ≤ 22) (hc : 0 ≤ c) : ((shpOf k c).size = c.toNat ∧ shpOf k c ≠ qm) ↔ vCnt k c = true := by
  unfold shpOf
  rcases kinds k with g | g
  · rcases g with rfl | rfl | rfl | rfl | rfl | rfl | rfl | rfl | rfl | rfl | rfl | rfl | rfl | rfl | rfl | rfl | rfl | rfl | rfl | rfl | rfl | rfl | rfl
    case inr.inr.inr.inr.inl =>
      by_cases h10 : 10 < c
      · have e : shp 4 c = [] := by simp [shp, h10]
        rw [e]; simp [pkS, vCnt]; omega
      · have e : shp 4 c = [mny 101 c.toNat] := by simp [shp, h10]
        rw [e, pkS1 _ _ (mny_ne _ _ (by decide)), mny_size]; simp [vCnt]; omega
    all_goals first
      | (simp only [shp, Int.reduceEq, or_false, or_true, or_self, if_true, if_false]; rw [pkS1 _ _ (mny_ne _ _ (by decide)), mny_size]; simp [vCnt]; omega)
      | (simp only [shp, Int.reduceEq, or_false, or_true, or_self, if_true, if_false]; rw [pkS1 _ _ (ne_qm_size (by decide)), bx_size]; simp [vCnt]; omega)
      | (simp only [shp, Int.reduceEq, or_false, or_true, or_self, if_true, if_false]; rw [pkS1 _ _ (fun e => absurd (bx_inj e) (by decide)), bx_size]; simp [vCnt]; omega)
      | (simp only [shp, Int.reduceEq, or_false, or_true, or_self, if_true, if_false]; rw [pkS2 _ _ _ (ne_qm_size (by decide)) (ne_qm_size (by decide)), bx_size, bx_size]; simp [vCnt]; omega)
  · omega

theorem get_101 (l : List UInt8) (i : Nat) (h : i < l.length) (hl : ∀ x ∈ l, x = 101) (k : Int) : fit ((bx l).get! i).toNat k = isExpr k := by
  have e : (bx l).get! i = 101 := by rw [bx_get l i h]; refine hl _ ?_; simp [List.getD, h]
  rw [e]; rfl

theorem i1 {i : Nat} (h : i < (1 : Int).toNat) : i = 0 := by have : (1 : Int).toNat = 1 := rfl; omega
theorem i2 {i : Nat} (h : i < (2 : Int).toNat) : i = 0 ∨ i = 1 := by have : (2 : Int).toNat = 2 := rfl; omega
theorem i3 {i : Nat} (h : i < (3 : Int).toNat) : i = 0 ∨ i = 1 ∨ i = 2 := by have : (3 : Int).toNat = 3 := rfl; omega
theorem i4 {i : Nat} (h : i < (4 : Int).toNat) : i = 0 ∨ i = 1 ∨ i = 2 ∨ i = 3 := by have : (4 : Int).toNat = 4 := rfl; omega
theorem i5 {i : Nat} (h : i < (5 : Int).toNat) : i = 0 ∨ i = 1 ∨ i = 2 ∨ i = 3 ∨ i = 4 := by have : (5 : Int).toNat = 5 := rfl; omega

set_option maxHeartbeats 2000000 in
theorem shape_fits (k c : Int) (hv : vCnt k c = true) (i : Nat) (hi : i < c.toNat) (kk : Int) : fit ((shpOf k c).get! i).toNat kk = mSt k i kk := by
  unfold shpOf
  rcases kinds k with g | g
  · rcases g with rfl | rfl | rfl | rfl | rfl | rfl | rfl | rfl | rfl | rfl | rfl | rfl | rfl | rfl | rfl | rfl | rfl | rfl | rfl | rfl | rfl | rfl | rfl
    case inl =>
      have e : pkS c.toNat (shp 0 c) qm = mny 109 c.toNat := by simp [shp, pkS, mny_size]
      rw [e, mny_get _ _ _ hi]; rfl
    case inr.inr.inl =>
      have e : pkS c.toNat (shp 2 c) qm = mny 115 c.toNat := by simp [shp, pkS, mny_size]
      rw [e, mny_get _ _ _ hi]; rfl
    case inr.inr.inr.inr.inl =>
      have h10 : ¬ 10 < c := by simp [vCnt] at hv; omega
      have e : pkS c.toNat (shp 4 c) qm = mny 101 c.toNat := by simp [shp, pkS, mny_size, h10]
      rw [e, mny_get _ _ _ hi]; rfl
    case inr.inr.inr.inr.inr.inr.inl =>
      have hc : c = 2 ∨ c = 3 := by simpa [vCnt] using hv
      rcases hc with rfl | rfl
      · have : i = 0 ∨ i = 1 := by have : (2 : Int).toNat = 2 := rfl; omega
        rcases this with rfl | rfl
        · rfl
        · show (kk == 2) = (kk == 2 || (false && (kk == 6))); simp
      · have : i = 0 ∨ i = 1 ∨ i = 2 := by have : (3 : Int).toNat = 3 := rfl; omega
        rcases this with rfl | rfl | rfl
        · rfl
        · show (kk == 2) = (kk == 2 || (false && (kk == 6))); simp
        · rfl
    all_goals first
      | (simp [vCnt] at hv; subst hv; obtain rfl := i1 hi; rfl)
      | (simp [vCnt] at hv; subst hv; rcases i2 hi with rfl | rfl <;> rfl)
      | (simp [vCnt] at hv; subst hv; rcases i3 hi with rfl | rfl | rfl <;> rfl)
      | (simp [vCnt] at hv; rcases hv with rfl | rfl
         · rcases i2 hi with rfl | rfl <;> rfl
         · rcases i4 hi with rfl | rfl | rfl | rfl <;> rfl)
      | (simp [vCnt] at hv; rcases hv with rfl | rfl
         · rcases i3 hi with rfl | rfl | rfl <;> rfl
         · rcases i5 hi with rfl | rfl | rfl | rfl | rfl <;> rfl)
      | (simp [vCnt] at hv; subst hv; exact absurd hi (Nat.not_lt_zero _))
  · rw [vCnt_none k c g] at hv; cases hv
end Go.Proofs.YtdlahabeegmjiaaDoor

namespace Go.Proofs.YtdlahabeegmjiaaDoor
open Go.RowKit

set_option maxHeartbeats 1000000 in
set_option maxRecDepth 1000000 in
theorem fits_any (c : Nat) (k : Int) (w : World) : Calls Tryd.prog 46 #[.int .u8 c, .int .i64 k] w fun e w' => e = .returned (.bool (fit c k)) ∧ w' = w := by
  have HE := hide (fun w => specExpr_any k w)
  have HS := hide (fun w => specStat_any k w)
  by_cases h1 : c = 101
  · subst h1
    have HN : Hid (fit 101 k = isExpr k) := rfl
    go_enter Tryd.func46, Tryd.ntmps46
    go_wp2_with fail
    refine (HE.out _).mono ?_
    rintro e w1 ⟨rfl, rfl⟩
    go_wp2
    go_ret
    exact ⟨by rw [HN.out]; rfl, rfl⟩
  by_cases h2 : c = 98
  · subst h2
    have HN : Hid (fit 98 k = (k == 2)) := rfl
    go_enter Tryd.func46, Tryd.ntmps46
    go_wp2
    go_ret
    exact ⟨by rw [HN.out]; rfl, rfl⟩
  by_cases h3 : c = 115
  · subst h3
    have HN : Hid (fit 115 k = isStat k) := rfl
    go_enter Tryd.func46, Tryd.ntmps46
    go_wp2_with fail
    refine (HS.out _).mono ?_
    rintro e w1 ⟨rfl, rfl⟩
    go_wp2
    go_ret
    exact ⟨by rw [HN.out]; rfl, rfl⟩
  by_cases h4 : c = 109
  · subst h4
    by_cases h5 : k = 1
    · subst h5
      have HN : Hid (fit 109 1 = true) := rfl
      go_enter Tryd.func46, Tryd.ntmps46
      go_wp2
      go_ret
      exact ⟨by rw [HN.out]; rfl, rfl⟩
    · have t5 : (k == 1) = false := beq_eq_false_iff_ne.2 h5
      have HN : Hid (fit 109 k = isStat k) := by show (k == 1 || isStat k) = isStat k; rw [t5]; rfl
      clear h5
      go_enter Tryd.func46, Tryd.ntmps46
      go_wp2_with fail
      refine (HS.out _).mono ?_
      rintro e w1 ⟨rfl, rfl⟩
      go_wp2
      go_ret
      exact ⟨by rw [HN.out]; rfl, rfl⟩
  · have t1 : (((c : Nat) : Int) == 101) = false := beq_eq_false_iff_ne.2 (by omega)
    have t2 : (((c : Nat) : Int) == 98) = false := beq_eq_false_iff_ne.2 (by omega)
    have t3 : (((c : Nat) : Int) == 115) = false := beq_eq_false_iff_ne.2 (by omega)
    have t4 : (((c : Nat) : Int) == 109) = false := beq_eq_false_iff_ne.2 (by omega)
    have HN : Hid (fit c k = (k == 2 || k == 6)) := by show _ = _; unfold fit; rw [if_neg h1, if_neg h2, if_neg h3, if_neg h4]
    clear h1 h2 h3 h4
    by_cases h5 : k = 2
    · subst h5
      go_enter Tryd.func46, Tryd.ntmps46
      go_wp2
      go_ret
      exact ⟨by rw [HN.out]; rfl, rfl⟩
    · have t5 : (k == 2) = false := beq_eq_false_iff_ne.2 h5
      rw [t5, Bool.false_or] at HN
      clear h5
      go_enter Tryd.func46, Tryd.ntmps46
      go_wp2
      go_ret
      exact ⟨by rw [HN.out]; rfl, rfl⟩

theorem bx_append (a b : List UInt8) : bx a ++ bx b = bx (a ++ b) := by
  apply ByteArray.ext
  simp [bx]
theorem mny_snoc (c : UInt8) (k : Nat) : mny c k ++ bx [c] = mny c (k + 1) := by
  rw [mny, bx_append, mny, List.replicate_succ']
set_option maxHeartbeats 1000000 in
set_option maxRecDepth 1000000 in
theorem many_any (c : UInt8) (n : Nat) (hn : n ≤ 1048576) (w : World) : Calls Tryd.prog 59 #[.string (bx [c]), .int .i64 n] w fun e w' => e = .returned (.string (mny c n)) ∧ w' = w := by
  go_enter Tryd.func59, Tryd.ntmps59
  go_wp2
  go_loop [5, 6] (fun o i => ∃ k : Nat, k ≤ n ∧ i = .int .i64 k ∧ o = .string (mny c k)) (fun _ i => n - (intOf i).toNat)
  case atStart => exact ⟨0, Nat.zero_le _, rfl, rfl⟩
  case round =>
    obtain ⟨k, hk, rfl, rfl⟩ := hrel
    by_cases hlt : k < n
    · have hlti : decide ((k : Int) < (n : Int)) = true := decide_eq_true (by omega)
      have hz : ¬ 9223372036854775807 < (mny c k).size + (bx [c]).size := by rw [mny_size, bx_size]; simp; omega
      have HS : Hid (mny c k ++ bx [c] = mny c (k + 1)) := mny_snoc c k
      go_wp2
      go_round
      case rel => exact ⟨k + 1, by omega, by go_num, by rw [HS.out]⟩
      case measure => simp [intOf]; omega
    · have hlti : decide ((k : Int) < (n : Int)) = false := decide_eq_false (by omega)
      have HE : Hid (k = n) := by show k = n; omega
      go_wp2
      go_ret
      exact ⟨by rw [← HE.out]; rfl, rfl⟩
end Go.Proofs.YtdlahabeegmjiaaDoor

namespace Go.Proofs.YtdlahabeegmjiaaDoor
open Go.RowKit

/-- A slice of strings reads as L. -/
def TS (w : World) (v : Value) (L : List ByteArray) : Prop := ∃ a b o c, v = .slice a L.length c ∧ (0 < L.length → a = some ⟨b, o, none⟩) ∧ ∀ j, j < L.length → w.cell? ⟨b, o + j, none⟩ = some (.string (L.getD j .empty))
theorem TS.below {w w' : World} {v : Value} {L : List ByteArray} (h : TS w v L) (hb : Below w.heap.size w w') : TS w' v L := by
  obtain ⟨a, b, o, c, h1, h2, h3⟩ := h
  exact ⟨a, b, o, c, h1, h2, fun j hj => cell_kept (h3 j hj) hb⟩
theorem ts_one {w : World} {b : Nat} {t : TypeId} {x : ByteArray} (h : Blk w b t #[.string x]) : TS w (.slice (some ⟨b, 0, none⟩) 1 1) [x] := by
  refine ⟨_, b, 0, 1, rfl, fun _ => rfl, fun j hj => ?_⟩
  have : j = 0 := by simp at hj; omega
  subst this
  rw [h.cell]; rfl
theorem ts_two {w : World} {b : Nat} {t : TypeId} {x y : ByteArray} (h : Blk w b t #[.string x, .string y]) : TS w (.slice (some ⟨b, 0, none⟩) 2 2) [x, y] := by
  refine ⟨_, b, 0, 2, rfl, fun _ => rfl, fun j hj => ?_⟩
  have : j = 0 ∨ j = 1 := by simp at hj; omega
  rcases this with rfl | rfl <;> (rw [h.cell]; rfl)

theorem blk_new2 (w : World) (o : Obj) (t : TypeId) (cs : Array Value) : Blk ((w.alloc o).alloc (.cells cs t)) (w.heap.size + 1) t cs := by
  have := Blk.new (w.alloc o) t cs
  simpa using this
theorem below2 (w : World) (o o' : Obj) : Below w.heap.size w ((w.alloc o).alloc o') := ((Below.refl _ _).alloc (Nat.le_refl _) _).alloc (by simp) _

set_option maxHeartbeats 4000000 in
set_option maxRecDepth 1000000 in
theorem shapes_any (K N C : Int) (vt vn vy : Value) (w : World) (hk : 0 ≤ K) (hk2 : K ≤ 22) (hc : 0 ≤ C) (hc2 : C ≤ 1048576) :
    Calls Tryd.prog 45 #[.agg #[.int .i64 K, .int .i64 N, vt, vn, vy, .int .i64 C]] w fun e w' => ∃ u, e = .returned u ∧ TS w' u (shp K C) ∧ Below w.heap.size w w' := by
  obtain ⟨n, rfl⟩ : ∃ n : Nat, C = n := ⟨C.toNat, by omega⟩
  have HM := hide (fun c w => many_any c n (by omega) w)
  have HB := hide ((Below.refl w.heap.size w).alloc (Nat.le_refl _) (.cells #[.int .i64 K, .int .i64 N, vt, vn, vy, .int .i64 n] 42))
  rcases kinds K with g | g
  · rcases g with rfl | rfl | rfl | rfl | rfl | rfl | rfl | rfl | rfl | rfl | rfl | rfl | rfl | rfl | rfl | rfl | rfl | rfl | rfl | rfl | rfl | rfl | rfl
    case inl =>
      have HN : Hid (shp 0 n = [mny 109 n]) := rfl
      go_enter Tryd.func45, Tryd.ntmps45
      go_wp2_with fail
      refine (HM.out 109 _).mono ?_
      rintro e w1 ⟨rfl, rfl⟩
      go_wp2
      go_ret
      exact ⟨_, rfl, by rw [HN.out]; exact ts_one (blk_new2 _ _ _ _), below2 _ _ _⟩
    case inr.inr.inl =>
      have HN : Hid (shp 2 n = [mny 115 n]) := rfl
      go_enter Tryd.func45, Tryd.ntmps45
      go_wp2_with fail
      refine (HM.out 115 _).mono ?_
      rintro e w1 ⟨rfl, rfl⟩
      go_wp2
      go_ret
      exact ⟨_, rfl, by rw [HN.out]; exact ts_one (blk_new2 _ _ _ _), below2 _ _ _⟩
    case inr.inr.inr.inr.inl =>
      by_cases h10 : 10 < (n : Int)
      · have t10 : decide ((10 : Int) < (n : Int)) = true := decide_eq_true h10
        have HN : Hid (shp 4 n = []) := by show _ = _; simp [shp]; omega
        go_enter Tryd.func45, Tryd.ntmps45
        go_wp2
        go_ret
        exact ⟨_, rfl, by rw [HN.out]; exact ⟨none, 0, 0, 0, rfl, fun h => absurd h (by decide), fun j hj => absurd hj (Nat.not_lt_zero _)⟩, HB.out⟩
      · have t10 : decide ((10 : Int) < (n : Int)) = false := decide_eq_false h10
        have HN : Hid (shp 4 n = [mny 101 n]) := by show _ = _; simp [shp]; omega
        go_enter Tryd.func45, Tryd.ntmps45
        go_wp2_with fail
        refine (HM.out 101 _).mono ?_
        rintro e w1 ⟨rfl, rfl⟩
        go_wp2
        go_ret
        exact ⟨_, rfl, by rw [HN.out]; exact ts_one (blk_new2 _ _ _ _), below2 _ _ _⟩
    all_goals
      go_enter Tryd.func45, Tryd.ntmps45
      go_wp2
      go_ret
      first
        | exact ⟨_, rfl, ts_one (blk_new2 _ _ _ _), below2 _ _ _⟩
        | exact ⟨_, rfl, ts_two (blk_new2 _ _ _ _), below2 _ _ _⟩
  · omega
end Go.Proofs.YtdlahabeegmjiaaDoor

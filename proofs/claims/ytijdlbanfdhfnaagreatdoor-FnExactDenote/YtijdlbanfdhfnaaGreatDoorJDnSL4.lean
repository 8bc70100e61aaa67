/-
  The walks of l4to, l4bits.
  What Denote answers, in plain words. No run of the program stands in this text.
-/
import Derived.Test.YtijdlbanfdhfnaaGreatDoorJDnT
import Derived.Test.YtijdlbanfdhfnaaGreatDoorJDnDc0
import Derived.Test.YtijdlbanfdhfnaaGreatDoorJDnTg0
namespace Go.Proofs.YtijdlbanfdhfnaaGreatDoor
open Go.RowKit

/-- The cell to which a way leads, or -1 (l4to). -/
def toC (w h c : Int) (d : Nat) : Int :=
  if d = 0 then (if c / w - 1 < 0 then -1 else (c / w - 1) * w + c % w)
  else if d = 1 then (if w ≤ c % w + 1 then -1 else c / w * w + (c % w + 1))
  else if d = 2 then (if h ≤ c / w + 1 then -1 else (c / w + 1) * w + c % w)
  else (if c % w - 1 < 0 then -1 else c / w * w + (c % w - 1))

theorem toC_div {w h c : Int} (hw : 1 ≤ w) (hc0 : 0 ≤ c) (hc : c < w * h) : 0 ≤ c / w ∧ c / w < h ∧ 0 ≤ c % w ∧ c % w < w := by
  refine ⟨Int.ediv_nonneg hc0 (by omega), Int.ediv_lt_of_lt_mul (by omega) (by rw [Int.mul_comm]; exact hc), Int.emod_nonneg _ (by omega), Int.emod_lt_of_pos _ (by omega)⟩

set_option maxHeartbeats 1000000 in
set_option maxRecDepth 1000000 in
theorem l4to_any (W H c : Int) (d : Nat) (w : World) (hw0 : 1 ≤ W) (hw1 : W ≤ 40) (hh0 : 1 ≤ H) (hh1 : H ≤ 40) (hc0 : 0 ≤ c) (hc1 : c < W * H) (hd : d < 4) :
    Calls Tryz.prog 44 #[.int .i64 W, .int .i64 H, .int .i64 c, .int .i64 d] w fun e w' => e = .returned (.int .i64 (toC W H c d)) ∧ w' = w := by
  obtain ⟨hy0, hy1, hx0, hx1⟩ := toC_div hw0 hc0 hc1
  have hdm : c.tdiv W = c / W := Int.tdiv_eq_ediv_of_nonneg hc0
  have hmm : c.tmod W = c % W := Int.tmod_eq_emod_of_nonneg hc0
  have hWne : (W == 0) = false := by rw [beq_eq_false_iff_ne]; omega
  have hcb : c ≤ 1600 := by
    have : W * H ≤ 40 * 40 := Int.mul_le_mul hw1 hh1 (by omega) (by omega)
    omega
  obtain ⟨x, hx⟩ : ∃ x, c % W = x := ⟨_, rfl⟩
  obtain ⟨y, hy⟩ : ∃ y, c / W = y := ⟨_, rfl⟩
  have HT : Hid (toC W H c d = if d = 0 then (if y - 1 < 0 then -1 else (y - 1) * W + x) else if d = 1 then (if W ≤ x + 1 then -1 else y * W + (x + 1)) else if d = 2 then (if H ≤ y + 1 then -1 else (y + 1) * W + x) else (if x - 1 < 0 then -1 else y * W + (x - 1))) := by
    show _ = _; unfold toC; rw [hx, hy]
  have hy1' : y < H := by rw [← hy]; exact hy1
  have hy0' : 0 ≤ y := by rw [← hy]; exact hy0
  have hx1' : x < W := by rw [← hx]; exact hx1
  have hx0' : 0 ≤ x := by rw [← hx]; exact hx0
  have hyW : ∀ z, 0 ≤ z → z ≤ 40 → 0 ≤ z * W ∧ z * W ≤ 1600 := fun z h0 h1 => ⟨Int.mul_nonneg h0 (by omega), by
    have := Int.mul_le_mul h1 hw1 (by omega) (by omega); omega⟩
  have HYW := hide hyW
  rw [hx] at hmm
  rw [hy] at hdm
  clear hyW hx hy hy0 hy1 hx0 hx1
  have hd4 : d = 0 ∨ d = 1 ∨ d = 2 ∨ d = 3 := by omega
  have u1 : decide (x < 0) = false := decide_eq_false (by omega)
  have u2 : decide (W ≤ x) = false := decide_eq_false (by omega)
  have u3 : decide (y < 0) = false := decide_eq_false (by omega)
  have u4 : decide (H ≤ y) = false := decide_eq_false (by omega)
  rcases hd4 with rfl | rfl | rfl | rfl
  · have HT2 : Hid (toC W H c 0 = if y - 1 < 0 then -1 else (y - 1) * W + x) := HT.out
    by_cases r : y - 1 < 0
    · have v1 : decide (y - 1 < 0) = true := decide_eq_true r
      have HT3 : Hid (toC W H c 0 = -1) := by show _ = _; rw [HT2.out, if_pos r]
      go_enter Tryz.func44, Tryz.ntmps44
      go_wp2
      go_ret
      exact ⟨by rw [HT3.out]; rfl, rfl⟩
    · have v1 : decide (y - 1 < 0) = false := decide_eq_false r
      have v2 : decide (H ≤ y - 1) = false := decide_eq_false (by omega)
      have HT3 : Hid (toC W H c 0 = (y - 1) * W + x) := by show _ = _; rw [HT2.out, if_neg r]
      obtain ⟨p0, p1⟩ := HYW.out (y - 1) (by omega) (by omega)
      go_enter Tryz.func44, Tryz.ntmps44
      go_wp2
      go_ret
      exact ⟨by rw [HT3.out]; rfl, rfl⟩
  · have HT2 : Hid (toC W H c 1 = if W ≤ x + 1 then -1 else y * W + (x + 1)) := HT.out
    have u5 : decide (x + 1 < 0) = false := decide_eq_false (by omega)
    by_cases r : W ≤ x + 1
    · have v1 : decide (W ≤ x + 1) = true := decide_eq_true r
      have HT3 : Hid (toC W H c 1 = -1) := by show _ = _; rw [HT2.out, if_pos r]
      go_enter Tryz.func44, Tryz.ntmps44
      go_wp2
      go_ret
      exact ⟨by rw [HT3.out]; rfl, rfl⟩
    · have v1 : decide (W ≤ x + 1) = false := decide_eq_false r
      have HT3 : Hid (toC W H c 1 = y * W + (x + 1)) := by show _ = _; rw [HT2.out, if_neg r]
      obtain ⟨p0, p1⟩ := HYW.out y (by omega) (by omega)
      go_enter Tryz.func44, Tryz.ntmps44
      go_wp2
      go_ret
      exact ⟨by rw [HT3.out]; rfl, rfl⟩
  · have HT2 : Hid (toC W H c 2 = if H ≤ y + 1 then -1 else (y + 1) * W + x) := HT.out
    have u5 : decide (y + 1 < 0) = false := decide_eq_false (by omega)
    by_cases r : H ≤ y + 1
    · have v1 : decide (H ≤ y + 1) = true := decide_eq_true r
      have HT3 : Hid (toC W H c 2 = -1) := by show _ = _; rw [HT2.out, if_pos r]
      go_enter Tryz.func44, Tryz.ntmps44
      go_wp2
      go_ret
      exact ⟨by rw [HT3.out]; rfl, rfl⟩
    · have v1 : decide (H ≤ y + 1) = false := decide_eq_false r
      have HT3 : Hid (toC W H c 2 = (y + 1) * W + x) := by show _ = _; rw [HT2.out, if_neg r]
      obtain ⟨p0, p1⟩ := HYW.out (y + 1) (by omega) (by omega)
      go_enter Tryz.func44, Tryz.ntmps44
      go_wp2
      go_ret
      exact ⟨by rw [HT3.out]; rfl, rfl⟩
  · have HT2 : Hid (toC W H c 3 = if x - 1 < 0 then -1 else y * W + (x - 1)) := HT.out
    have u5 : decide (W ≤ x - 1) = false := decide_eq_false (by omega)
    by_cases r : x - 1 < 0
    · have v1 : decide (x - 1 < 0) = true := decide_eq_true r
      have HT3 : Hid (toC W H c 3 = -1) := by show _ = _; rw [HT2.out, if_pos r]
      go_enter Tryz.func44, Tryz.ntmps44
      go_wp2
      go_ret
      exact ⟨by rw [HT3.out]; rfl, rfl⟩
    · have v1 : decide (x - 1 < 0) = false := decide_eq_false r
      have HT3 : Hid (toC W H c 3 = y * W + (x - 1)) := by show _ = _; rw [HT2.out, if_neg r]
      obtain ⟨p0, p1⟩ := HYW.out y (by omega) (by omega)
      go_enter Tryz.func44, Tryz.ntmps44
      go_wp2
      go_ret
      exact ⟨by rw [HT3.out]; rfl, rfl⟩
end Go.Proofs.YtijdlbanfdhfnaaGreatDoor

namespace Go.Proofs.YtijdlbanfdhfnaaGreatDoor

/-- Its kinds: those that name a target, those of an area, those with a way. -/
def nmK (k : Int) : Bool := k == 14 || k == 15
def arK (k : Int) : Bool := k == 8 || k == 9 || k == 10 || k == 13
def wyK (k : Int) : Bool := k == 10 || k == 11 || k == 12
/-- A number in its bounds. -/
def vlB (v : Int) : Bool := decide (-1000000 ≤ v) && decide (v ≤ 1000000)
theorem vlB_iff (v : Int) : vlB v = true ↔ -1000000 ≤ v ∧ v ≤ 1000000 := by unfold vlB; rw [Bool.and_eq_true, decide_eq_true_iff, decide_eq_true_iff]
/-- A declaration that may stand. -/
structure DcOk (d : Dc) : Prop where
  k0 : 7 ≤ d.kind
  k1 : d.kind ≤ 15
  x1 : vlB d.x1 = true
  y1 : vlB d.y1 = true
  x2 : vlB d.x2 = true
  y2 : vlB d.y2 = true
  cs : vlB d.cost = true
  ax : arK d.kind = false → d.x1 = d.x2
  ay : arK d.kind = false → d.y1 = d.y2
  d0 : 0 ≤ d.dir
  d1 : d.dir ≤ 3
  dw : wyK d.kind = false → d.dir = 0
  cz : d.kind ≠ 13 → d.cost = 0
  n0 : nmK d.kind = true → d.name.size ≤ 60
  n1 : nmK d.kind = true → (chk d.name).1 = 0
  n2 : nmK d.kind = false → d.name.size = 0

/-- A layout that is being made. -/
structure Flo where
  w : Nat
  h : Nat
  wall : Nat → Bool
  cost : Nat → Int
  ways : Nat → Nat → Bool
  tgs : List Tg
  frs : List Nat
/-- The lesser and the greater. -/
def loI (a b : Int) : Int := if a ≤ b then a else b
def hiI (a b : Int) : Int := if a ≤ b then b else a
/-- The area lies in the grid. -/
def inF (w h : Nat) (d : Dc) : Prop := 0 ≤ loI d.x1 d.x2 ∧ hiI d.x1 d.x2 < w ∧ 0 ≤ loI d.y1 d.y2 ∧ hiI d.y1 d.y2 < h
/-- The first k cells of a row, and the first k rows, of an area. -/
def arR (w : Nat) (x y : Int) : Nat → List Int
  | 0 => []
  | k + 1 => arR w x y k ++ [y * w + (x + k)]
def arT (w : Nat) (x y : Int) (n : Nat) : Nat → List Int
  | 0 => []
  | k + 1 => arT w x y n k ++ arR w x (y + k) n
/-- The cells of an area. -/
def arL (w : Nat) (d : Dc) : List Int := arT w (loI d.x1 d.x2) (loI d.y1 d.y2) (hiI d.x1 d.x2 - loI d.x1 d.x2 + 1).toNat (hiI d.y1 d.y2 - loI d.y1 d.y2 + 1).toNat
theorem arR_length (w : Nat) (x y : Int) : ∀ k, (arR w x y k).length = k
  | 0 => rfl
  | k + 1 => by unfold arR; rw [List.length_append, arR_length w x y k]; rfl
theorem arT_length (w : Nat) (x y : Int) (n : Nat) : ∀ k, (arT w x y n k).length = k * n
  | 0 => by unfold arT; simp
  | k + 1 => by unfold arT; rw [List.length_append, arT_length w x y n k, arR_length, Nat.succ_mul]
theorem arR_mem {w : Nat} {x y c : Int} : ∀ {k : Nat}, c ∈ arR w x y k → ∃ i : Nat, i < k ∧ c = y * w + (x + i)
  | 0, h => by cases h
  | k + 1, h => by
    rcases List.mem_append.1 (show c ∈ arR w x y k ++ [y * w + (x + k)] from h) with h | h
    · obtain ⟨i, h1, h2⟩ := arR_mem h; exact ⟨i, by omega, h2⟩
    · exact ⟨k, by omega, List.mem_singleton.1 h⟩
theorem arT_mem {w : Nat} {x y c : Int} {n : Nat} : ∀ {k : Nat}, c ∈ arT w x y n k → ∃ j i : Nat, j < k ∧ i < n ∧ c = (y + j) * w + (x + i)
  | 0, h => by cases h
  | k + 1, h => by
    rcases List.mem_append.1 (show c ∈ arT w x y n k ++ arR w x (y + k) n from h) with h | h
    · obtain ⟨j, i, h1, h2⟩ := arT_mem h; exact ⟨j, i, by omega, h2⟩
    · obtain ⟨i, h1, h2⟩ := arR_mem h; exact ⟨k, i, by omega, h1, h2⟩
theorem loI_le (a b : Int) : loI a b ≤ hiI a b := by unfold loI hiI; by_cases h : a ≤ b <;> simp only [h, if_true, if_false] <;> omega
/-- Each cell of an area in the grid is one of the grid. -/
theorem arL_in {w h : Nat} {d : Dc} (hi : inF w h d) : ∀ c ∈ arL w d, 0 ≤ c ∧ c < ((w * h : Nat) : Int) := fun c hc => by
  obtain ⟨j, i, h1, h2, rfl⟩ := arT_mem hc
  obtain ⟨a1, a2, a3, a4⟩ := hi
  have l1 := loI_le d.x1 d.x2
  have l2 := loI_le d.y1 d.y2
  obtain ⟨x, hx⟩ : ∃ x : Nat, loI d.x1 d.x2 + i = x := ⟨(loI d.x1 d.x2 + i).toNat, by omega⟩
  obtain ⟨y, hy⟩ : ∃ y : Nat, loI d.y1 d.y2 + j = y := ⟨(loI d.y1 d.y2 + j).toNat, by omega⟩
  rw [hx, hy]
  have hxw : x < w := by omega
  have hyh : y + 1 ≤ h := by omega
  have e : ((y : Int) * (w : Int) + (x : Int)) = ((y * w + x : Nat) : Int) := by simp
  rw [e]
  have m : (y + 1) * w ≤ h * w := Nat.mul_le_mul_right w hyh
  rw [Nat.succ_mul, Nat.mul_comm h w] at m
  omega
theorem arL_pos {w : Nat} {d : Dc} : 0 < (arL w d).length := by
  have l1 := loI_le d.x1 d.x2
  have l2 := loI_le d.y1 d.y2
  unfold arL
  rw [arT_length]
  exact Nat.mul_pos (by omega) (by omega)
theorem arL_le {w h : Nat} {d : Dc} (hi : inF w h d) : (arL w d).length ≤ h * w := by
  obtain ⟨a1, a2, a3, a4⟩ := hi
  unfold arL
  rw [arT_length]
  exact Nat.mul_le_mul (by omega) (by omega)
/-- The first cell of an area of one corner. -/
theorem arL_head {w : Nat} {d : Dc} : (arL w d).getD 0 0 = loI d.y1 d.y2 * w + loI d.x1 d.x2 := by
  have l1 := loI_le d.x1 d.x2
  have l2 := loI_le d.y1 d.y2
  unfold arL
  obtain ⟨n, hn⟩ : ∃ n, (hiI d.x1 d.x2 - loI d.x1 d.x2 + 1).toNat = n + 1 := ⟨(hiI d.x1 d.x2 - loI d.x1 d.x2 + 1).toNat - 1, by omega⟩
  obtain ⟨m, hm⟩ : ∃ m, (hiI d.y1 d.y2 - loI d.y1 d.y2 + 1).toNat = m + 1 := ⟨(hiI d.y1 d.y2 - loI d.y1 d.y2 + 1).toNat - 1, by omega⟩
  rw [hn, hm]
  have key : ∀ (x y : Int) (n : Nat), (arR w x y (n + 1)).head? = some (y * w + x) := fun x y n => by
    induction n with
    | zero => simp [arR]
    | succ n ih => show (arR w x y (n + 1) ++ [y * w + (x + (n + 1 : Nat))]).head? = _; rw [List.head?_append, ih]; rfl
  have key2 : ∀ (x y : Int) (n m : Nat), (arT w x y (n + 1) (m + 1)).head? = some (y * w + x) := fun x y n m => by
    induction m with
    | zero => show ([] ++ arR w x (y + (0 : Nat)) (n + 1)).head? = _; rw [List.nil_append, key]; simp
    | succ m ih => show (arT w x y (n + 1) (m + 1) ++ arR w x (y + (m + 1 : Nat)) (n + 1)).head? = _; rw [List.head?_append, ih]; rfl
  have := key2 (loI d.x1 d.x2) (loI d.y1 d.y2) n m
  rw [List.head?_eq_getElem?] at this
  rw [List.getD_eq_getElem?_getD, this]
  rfl
/-- What a declaration does to a cell. -/
def lay1 (d : Dc) (f : Flo) (c : Nat) : Flo :=
  if d.kind = 8 then { f with wall := fun x => if x = c then true else f.wall x }
  else if d.kind = 9 then { f with wall := fun x => if x = c then false else f.wall x }
  else if d.kind = 13 then { f with cost := fun x => if x = c then d.cost else f.cost x }
  else { f with ways := fun x k => if x = c then (if (k : Int) = d.dir then decide (d.kind ≠ 12) else if d.kind = 10 then false else f.ways x k) else f.ways x k }
def layN (d : Dc) (f : Flo) (L : List Int) : Flo := L.foldl (fun f c => lay1 d f c.toNat) f
theorem layN_snoc (d : Dc) (f : Flo) (L : List Int) (c : Int) : layN d f (L ++ [c]) = lay1 d (layN d f L) c.toNat := by unfold layN; rw [List.foldl_append]; rfl
theorem lay1_same (d : Dc) (f : Flo) (c : Nat) : (lay1 d f c).w = f.w ∧ (lay1 d f c).h = f.h ∧ (lay1 d f c).tgs = f.tgs ∧ (lay1 d f c).frs = f.frs := by
  unfold lay1
  split
  · exact ⟨rfl, rfl, rfl, rfl⟩
  split
  · exact ⟨rfl, rfl, rfl, rfl⟩
  split
  · exact ⟨rfl, rfl, rfl, rfl⟩
  · exact ⟨rfl, rfl, rfl, rfl⟩
/-- The target that a declaration makes. -/
def tgOf (f : Flo) (d : Dc) : Tg := ⟨d.name, if d.kind = 15 then 1 else 0, loI d.y1 d.y2 * f.w + loI d.x1 d.x2⟩
/-- Its name or its cell is taken. -/
def tkn2 (L : List Tg) (t : Tg) : Prop := ∃ x ∈ L, x.name = t.name ∨ x.cell = t.cell
open Classical in
/-- What a declaration's code is. -/
noncomputable def apC (f : Flo) (d : Dc) : Int :=
  if d.kind = 7 then 8
  else if ¬ inF f.w f.h d ∨ (d.kind = 13 ∧ (d.cost < 1 ∨ 9 < d.cost)) then 8
  else if nmK d.kind = true then (if d.name.size = 0 ∨ tkn2 f.tgs (tgOf f d) then 8 else if 30 ≤ f.tgs.length then 7 else 0)
  else 0
/-- What it leaves, where its code is none. -/
def apF (f : Flo) (d : Dc) (i : Nat) : Flo :=
  if nmK d.kind = true then { f with tgs := f.tgs ++ [tgOf f d], frs := f.frs ++ [i] } else layN d f (arL f.w d)
/-- The declarations from the i-th on. -/
noncomputable def dnR (f : Flo) (i : Nat) : List Dc → Flo × Int × Int
  | [] => (f, 0, 0)
  | d :: r => if apC f d = 0 then dnR (apF f d i) (i + 1) r else (f, apC f d, i)
/-- The first target on a wall, from the k-th on: whence it came, or -1. -/
def wlT (f : Flo) : List Tg → List Nat → Int
  | t :: r, i :: q => if f.wall t.cell.toNat = true then (i : Int) else wlT f r q
  | _, _ => -1
/-- What a cell costs, and its exits. -/
def csF (f : Flo) (c : Nat) : Int := if f.wall c = true then 0 else f.cost c
def wyF (f : Flo) (c k : Nat) : Bool := !f.wall c && f.ways c k && decide (0 ≤ toC f.w f.h c k) && !f.wall (toC f.w f.h c k).toNat
def smW (b : Nat → Bool) : Int := (if b 0 then 1 else 0) + 2 * ((if b 1 then 1 else 0) + 2 * ((if b 2 then 1 else 0) + 2 * (if b 3 then 1 else 0)))
def exF (f : Flo) (c : Nat) : Int := smW (wyF f c)
/-- A target among others, by their names. -/
def insT (t : Tg) : List Tg → List Tg
  | [] => [t]
  | x :: r => if Go.Op.bytesLess x.name.toList t.name.toList = true then x :: insT t r else t :: x :: r
def srtT : List Tg → List Tg → List Tg
  | A, [] => A
  | A, t :: r => srtT (insT t A) r
def lyOf (f : Flo) : Ly := ⟨f.w, f.h, (List.range (f.w * f.h)).map (csF f), (List.range (f.w * f.h)).map (exF f), srtT [] f.tgs⟩
/-- The floor at first. -/
def flo0 (w h : Nat) : Flo := ⟨w, h, fun _ => false, fun _ => 1, fun _ _ => true, [], []⟩
/-- The first declaration makes a grid. -/
def grd0 (d : Dc) : Prop := d.kind = 7 ∧ 1 ≤ d.x1 ∧ d.x1 ≤ 40 ∧ 1 ≤ d.y1 ∧ d.y1 ≤ 40
/-- All may stand. -/
def dcsOk (L : List Dc) : Prop := L.length ≤ 9000 ∧ ∀ j, j < L.length → DcOk (L.getD j .zero)
open Classical in
/-- What Denote answers: a layout, a code, a number. -/
noncomputable def dnA (L : List Dc) : Ly × Int × Int :=
  if ¬ dcsOk L then (.zero, 1, 0)
  else if ¬ (0 < L.length ∧ grd0 (L.getD 0 .zero)) then (.zero, 8, 0)
  else
    let r := dnR (flo0 (L.getD 0 .zero).x1.toNat (L.getD 0 .zero).y1.toNat) 1 (L.drop 1)
    if r.2.1 ≠ 0 then (.zero, r.2.1, r.2.2)
    else if 0 ≤ wlT r.1 r.1.tgs r.1.frs then (.zero, 8, wlT r.1 r.1.tgs r.1.frs)
    else (lyOf r.1, 0, 0)
end Go.Proofs.YtijdlbanfdhfnaaGreatDoor

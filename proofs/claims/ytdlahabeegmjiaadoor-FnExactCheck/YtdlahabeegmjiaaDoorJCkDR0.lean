/-
  The drawing's reader: spec.l9open, its next.
  Plainly: the sources that the laws draw. No run of the program stands in this text.
-/
import Derived.Test.YtdlahabeegmjiaaDoorJCkAP
import Derived.BigQuiet
import Derived.Deep.QuietTactic
import Derived.Test.YtdlahabeegmjiaaDoorJCkCKV
import Derived.Test.YtdlahabeegmjiaaDoorJCkT
namespace Go.Proofs.YtdlahabeegmjiaaDoor
open Go.RowKit

/-- What is drawn at i, of n bytes. -/
def nx (cs : ByteArray) (n i : Nat) : Nat := if i < n then (cs.get! i).toNat else 0
theorem nx_lt (cs : ByteArray) (n i : Nat) : nx cs n i < 256 := by
  unfold nx; split
  · exact (cs.get! i).toNat_lt
  · omega

theorem cells_set {W : World} {R : Nat} {t : TypeId} {a x : Value} (v : Value) (h : W.heap[R]? = some (.cells #[a, x] t (0, 0))) : (W.setCell ⟨R, 1, none⟩ v).heap[R]? = some (.cells #[a, v] t (0, 0)) := by
  obtain ⟨hlt, hk⟩ := Array.getElem?_eq_some_iff.1 h
  show (W.heap.modify R _)[R]? = _
  rw [Array.getElem?_eq_getElem (by rw [Array.size_modify]; exact hlt), Array.getElem_modify_self, hk]
  rfl
theorem grown_set (W : World) (R o k : Nat) (v : Value) : W.grownBy ((W.drewN k).setCell ⟨R, o, none⟩ v) (some R) :=
  ⟨rfl, rfl, rfl, by simp [World.setCell], fun j _ hj => Below.heap_setCell _ _ _ j (fun e => hj (by rw [e]))⟩
theorem grown_drew (W : World) (k : Nat) (row : Option Nat) : W.grownBy (W.drewN k) row := ⟨rfl, rfl, rfl, Nat.le_refl _, fun _ _ _ => rfl⟩

theorem grown_trans {a b c : World} {R : Nat} (h : a.grownBy b (some R)) (k : b.grownBy c none) (_ : R < a.heap.size) : a.grownBy c (some R) :=
  ⟨k.os.trans h.os, k.tape.trans h.tape, k.output.trans h.output, Nat.le_trans h.size k.size, fun j hj hne => (k.block j (Nat.lt_of_lt_of_le hj h.size) (by simp)).trans (h.block j hj hne)⟩
theorem grown_trans0 {a b c : World} (h : a.grownBy b none) (k : b.grownBy c none) : a.grownBy c none :=
  ⟨k.os.trans h.os, k.tape.trans h.tape, k.output.trans h.output, Nat.le_trans h.size k.size, fun j hj hne => (k.block j (Nat.lt_of_lt_of_le hj h.size) hne).trans (h.block j hj hne)⟩
theorem grown_own {a b c : World} {R : Nat} {row : Option Nat} (h : a.grownBy b (some R)) (k : b.grownBy c row) (hr : ∀ r, row = some r → a.heap.size ≤ r ∨ r = R) : a.grownBy c (some R) :=
  ⟨k.os.trans h.os, k.tape.trans h.tape, k.output.trans h.output, Nat.le_trans h.size k.size, fun j hj hne => (k.block j (Nat.lt_of_lt_of_le hj h.size) (fun e => by
    rcases hr j e.symm with g | g
    · omega
    · exact hne (by rw [g]))).trans (h.block j hj hne)⟩
end Go.Proofs.YtdlahabeegmjiaaDoor

namespace Go.Proofs.YtdlahabeegmjiaaDoor

/-- A number's digits. -/
def decG (v : Nat) : List Nat := if v < 10 then [48 + v] else if v < 100 then [48 + v / 10, 48 + v % 10] else [48 + v / 10 / 10, 48 + v / 10 % 10, 48 + v % 10]
def decB (v : Nat) : ByteArray := byt (decG v)
theorem decB_le (v : Nat) : (decB v).size ≤ 3 := by
  unfold decB; rw [byt_size]; unfold decG; split
  · simp
  · split <;> simp
def odI : List ByteArray := [(⟨#[45, 49]⟩ : ByteArray), (⟨#[57, 57]⟩ : ByteArray), (⟨#[49, 32, 47, 32, 48]⟩ : ByteArray), (⟨#[57, 57, 57, 57, 57, 32, 42, 32, 57, 57]⟩ : ByteArray), (⟨#[110, 111, 119, 104, 101, 114, 101]⟩ : ByteArray), (⟨#[34, 116, 34]⟩ : ByteArray)]
def wdN : List ByteArray := [(⟨#[100, 111, 99, 107]⟩ : ByteArray), (⟨#[65]⟩ : ByteArray), (⟨#[66]⟩ : ByteArray), (⟨#[112, 97, 99, 107, 32, 195, 165]⟩ : ByteArray), (⟨#[113]⟩ : ByteArray)]
def opC : List ByteArray := [(⟨#[61, 61]⟩ : ByteArray), (⟨#[33, 61]⟩ : ByteArray), (⟨#[60]⟩ : ByteArray), (⟨#[60, 61]⟩ : ByteArray), (⟨#[62]⟩ : ByteArray), (⟨#[62, 61]⟩ : ByteArray)]
def wyW : List ByteArray := [(⟨#[110, 111, 114, 116, 104]⟩ : ByteArray), (⟨#[101, 97, 115, 116]⟩ : ByteArray), (⟨#[115, 111, 117, 116, 104]⟩ : ByteArray), (⟨#[119, 101, 115, 116]⟩ : ByteArray)]
def clW : List ByteArray := [(⟨#[109, 40]⟩ : ByteArray), (⟨#[114, 111, 119, 40]⟩ : ByteArray), (⟨#[100, 101, 101, 112, 40]⟩ : ByteArray), (⟨#[110, 111, 110, 101, 40]⟩ : ByteArray)]
def tgW : List ByteArray := [(⟨#[115, 116, 97, 116, 105, 111, 110, 32]⟩ : ByteArray), (⟨#[99, 104, 97, 114, 103, 101, 114, 32]⟩ : ByteArray)]
def odL : List ByteArray := [(⟨#[]⟩ : ByteArray), (⟨#[103, 114, 105, 100, 32, 49, 44, 49, 59]⟩ : ByteArray), (⟨#[103, 114, 105, 100, 32, 49, 32, 49, 59]⟩ : ByteArray), (⟨#[47, 42, 32, 42, 47, 32, 103, 114, 105, 100, 32, 50, 44, 50, 59, 32, 47, 47, 32, 101, 110, 100]⟩ : ByteArray), (⟨#[47, 42, 32, 111, 112, 101, 110]⟩ : ByteArray), (⟨#[103, 114, 105, 100, 32, 48, 44, 32, 49, 59]⟩ : ByteArray), (⟨#[103, 114, 105, 100, 32, 52, 49, 44, 32, 49, 59]⟩ : ByteArray), (⟨#[119, 97, 108, 108, 32, 48, 44, 48, 59]⟩ : ByteArray), (⟨#[103, 114, 105, 100, 32, 49, 44, 49, 59, 32, 103, 114, 105, 100, 32, 49, 44, 49, 59]⟩ : ByteArray), (⟨#[108, 101, 116, 32, 97, 32, 61, 32, 98, 59]⟩ : ByteArray), (⟨#[108, 101, 116, 32, 97, 32, 61, 32, 49, 32, 38, 32, 116, 114, 117, 101, 59]⟩ : ByteArray), (⟨#[108, 101, 116, 32, 97, 32, 61, 32, 33, 49, 59]⟩ : ByteArray), (⟨#[108, 101, 116, 32, 97, 32, 61, 32, 40, 49, 59]⟩ : ByteArray), (⟨#[99, 97, 108, 108, 32, 102, 40, 41, 59]⟩ : ByteArray), (⟨#[109, 97, 99, 114, 111, 32, 102, 40, 41, 32, 123, 32, 125, 32, 109, 97, 99, 114, 111, 32, 102, 40, 41, 32, 123, 32, 125]⟩ : ByteArray), (⟨#[109, 97, 99, 114, 111, 32, 102, 40, 105, 110, 116, 32, 97, 44, 32, 105, 110, 116, 32, 97, 41, 32, 123, 32, 125]⟩ : ByteArray), (⟨#[105, 102, 32, 49, 32, 123, 32, 125]⟩ : ByteArray), (⟨#[102, 111, 114, 32, 105, 32, 61, 32, 116, 114, 117, 101, 32, 116, 111, 32, 50, 32, 123, 32, 125]⟩ : ByteArray), (⟨#[103, 114, 105, 100, 32, 50, 44, 50, 59, 32, 115, 116, 97, 116, 105, 111, 110, 32, 34, 34, 32, 97, 116, 32, 48, 44, 48, 59]⟩ : ByteArray), (⟨#[103, 114, 105, 100, 32, 50, 44, 50, 59, 32, 115, 116, 97, 116, 105, 111, 110, 32, 34, 97, 34, 32, 97, 116, 32, 48, 44, 48, 59, 32, 115, 116, 97, 116, 105, 111, 110, 32, 34, 97, 34, 32, 97, 116, 32, 49, 44, 49, 59]⟩ : ByteArray), (⟨#[103, 114, 105, 100, 32, 50, 44, 50, 59, 32, 115, 116, 97, 116, 105, 111, 110, 32, 34, 97, 34, 32, 97, 116, 32, 48, 44, 48, 59, 32, 99, 104, 97, 114, 103, 101, 114, 32, 34, 98, 34, 32, 97, 116, 32, 48, 44, 48, 59]⟩ : ByteArray), (⟨#[103, 114, 105, 100, 32, 50, 44, 50, 59, 32, 119, 97, 108, 108, 32, 48, 44, 48, 59, 32, 115, 116, 97, 116, 105, 111, 110, 32, 34, 97, 34, 32, 97, 116, 32, 48, 44, 48, 59]⟩ : ByteArray), (⟨#[103, 114, 105, 100, 32, 50, 44, 50, 59, 32, 115, 116, 97, 116, 105, 111, 110, 32, 34, 97, 34, 32, 97, 116, 32, 48, 44, 48, 59, 32, 119, 97, 108, 108, 32, 48, 44, 48, 59, 32, 111, 112, 101, 110, 32, 48, 44, 48, 59]⟩ : ByteArray), (⟨#[103, 114, 105, 100, 32, 50, 44, 50, 59, 32, 122, 111, 110, 101, 32, 48, 44, 48, 32, 99, 111, 115, 116, 32, 49, 48, 59]⟩ : ByteArray), (⟨#[103, 114, 105, 100, 32, 50, 44, 50, 59, 32, 108, 97, 110, 101, 32, 48, 44, 48, 32, 117, 112, 59]⟩ : ByteArray), (⟨#[103, 114, 105, 100, 32, 57, 57, 57, 57, 57, 57, 57, 57, 44, 32, 49, 59]⟩ : ByteArray), (⟨#[49, 97, 98, 99]⟩ : ByteArray), (⟨#[108, 101, 116, 32, 97, 32, 61, 32, 34, 92, 120, 34, 59]⟩ : ByteArray), (⟨#[109, 97, 99, 114, 111, 32, 102, 40, 98, 111, 111, 108, 32, 98, 41, 32, 123, 32, 125]⟩ : ByteArray), (⟨#[109, 97, 99, 114, 111, 32, 102, 40, 41, 32, 123, 32, 109, 97, 99, 114, 111, 32, 103, 40, 41, 32, 123, 32, 125, 32, 125]⟩ : ByteArray), (⟨#[103, 114, 105, 100, 32, 50, 44, 50, 59, 32, 119, 97, 108, 108, 32, 50, 44, 48, 59]⟩ : ByteArray), (⟨#[108, 101, 116, 32, 97, 32, 61, 32, 49, 59, 32, 108, 101, 116, 32, 97, 32, 61, 32, 34, 116, 34, 59, 32, 115, 116, 97, 116, 105, 111, 110, 32, 97, 32, 97, 116, 32, 48, 44, 48, 59]⟩ : ByteArray), (⟨#[108, 101, 116, 32, 120, 32, 61, 32, 57, 57, 57, 57, 57, 32, 42, 32, 49, 49, 59]⟩ : ByteArray), (⟨#[103, 114, 105, 100, 32, 49, 32, 45, 32, 45, 32, 49, 44, 32, 49, 59]⟩ : ByteArray), (⟨#[108, 101, 116, 32, 116, 32, 61, 32, 34, 97, 34, 32, 38, 32, 34, 98, 34, 32, 61, 61, 32, 34, 97, 98, 34, 59, 32, 105, 102, 32, 116, 32, 123, 32, 103, 114, 105, 100, 32, 49, 44, 49, 59, 32, 125]⟩ : ByteArray), (⟨#[108, 101, 116, 32, 118, 32, 61, 32, 226, 130, 172, 59]⟩ : ByteArray)]
/-- A number's text, as k says. -/
def gI (ints : List ByteArray) (most k : Nat) : ByteArray :=
  if k < 150 then decB (k % most)
  else if k < 190 ∧ 0 < ints.length then ints.getD (k % ints.length) ⟨#[]⟩
  else if k < 210 then decB (k % 3) ++ (⟨#[32, 43, 32]⟩ : ByteArray) ++ decB (k % most) ++ (⟨#[32, 47, 32, 50]⟩ : ByteArray)
  else if k < 225 then (⟨#[40]⟩ : ByteArray) ++ decB (most - 1) ++ (⟨#[32, 45, 32]⟩ : ByteArray) ++ decB (k % most) ++ (⟨#[41, 32, 42, 32, 49]⟩ : ByteArray)
  else if k < 235 then (⟨#[45, 40, 45]⟩ : ByteArray) ++ decB (k % most) ++ (⟨#[41]⟩ : ByteArray)
  else if k < 250 then decB k ++ (⟨#[32, 37, 32]⟩ : ByteArray) ++ decB most
  else odI.getD (k - 250) ⟨#[]⟩
/-- What the reader of n bytes cs is at; what can be seen. -/
structure GE where
  cs : ByteArray
  n : Nat
  w : Nat
  h : Nat
  texts : List ByteArray
def GE.nx (e : GE) (i : Nat) : Nat := Go.Proofs.YtdlahabeegmjiaaDoor.nx e.cs e.n i
def gC (e : GE) (ints : List ByteArray) (i : Nat) : ByteArray := gI ints e.w (e.nx i) ++ (⟨#[44, 32]⟩ : ByteArray) ++ gI ints e.h (e.nx (i + 1))
def gA (e : GE) (ints : List ByteArray) (i : Nat) : ByteArray × Nat :=
  if e.nx (i + 2) % 2 = 0 then (gC e ints i ++ ((⟨#[32, 116, 111, 32]⟩ : ByteArray) ++ gC e ints (i + 3)), i + 5) else (gC e ints i, i + 3)
/-- A name: its first part, then what is put behind it. -/
def gN1 (e : GE) (i : Nat) : ByteArray × Nat :=
  if e.nx i % 3 = 0 then (byt (quoted (wdN.getD (e.nx i % 5) ⟨#[]⟩)) ++ ((⟨#[32, 38, 32]⟩ : ByteArray) ++ decB (e.nx (i + 1) % 30)), i + 2) else (byt (quoted (wdN.getD (e.nx i % 5) ⟨#[]⟩)), i + 1)
def gN2 (ints : List ByteArray) (k : Nat) (o : ByteArray) : ByteArray :=
  if k % 7 = 1 ∧ 0 < ints.length then o ++ ((⟨#[32, 38, 32]⟩ : ByteArray) ++ ints.getD (k % ints.length) ⟨#[]⟩) else o
def gN (e : GE) (ints : List ByteArray) (i : Nat) : ByteArray × Nat :=
  (if 200 < e.nx i ∧ 0 < e.texts.length then e.texts.getD (e.nx i % e.texts.length) ⟨#[]⟩ ++ (⟨#[32, 38, 32]⟩ : ByteArray) ++ decB (e.nx i % 9) else gN2 ints (e.nx i) (gN1 e i).1, (gN1 e i).2)
def gD1 (a b : ByteArray) (k : Nat) : ByteArray := a ++ (⟨#[32]⟩ : ByteArray) ++ opC.getD (k % 6) ⟨#[]⟩ ++ (⟨#[32]⟩ : ByteArray) ++ b
def gD2 (a b : ByteArray) (k : Nat) : ByteArray :=
  if k % 5 = 0 then (⟨#[33, 40]⟩ : ByteArray) ++ gD1 a b k ++ (⟨#[41, 32, 124, 124, 32, 102, 97, 108, 115, 101]⟩ : ByteArray) else if k % 5 = 1 then gD1 a b k ++ (⟨#[32, 38, 38, 32]⟩ : ByteArray) ++ b ++ (⟨#[32, 60, 32, 51]⟩ : ByteArray) else if 250 < k then a else gD1 a b k
def gD (e : GE) (ints : List ByteArray) (i : Nat) : ByteArray := gD2 (gI ints 5 (e.nx (i + 1))) (gI ints 5 (e.nx (i + 2))) (e.nx i)
/-- What a statement leaves: its text, where the reader is, the names. -/
structure GR where
  s : ByteArray
  i : Nat
  ints : List ByteArray
/-- So many statements. -/
def gL (st : Nat → List ByteArray → Int → GR) : Nat → ByteArray → Nat → List ByteArray → Int → GR
  | 0, o, i, ints, _ => ⟨o, i, ints⟩
  | c + 1, o, i, ints, f => gL st c (o ++ (st i ints f).s) (st i ints f).i (st i ints f).ints (f - 1)
def gB (st : Nat → List ByteArray → Int → GR) (c i : Nat) (ints : List ByteArray) (f : Int) : ByteArray × Nat :=
  ((gL st c (⟨#[123, 32]⟩ : ByteArray) i ints f).s ++ (⟨#[125, 10]⟩ : ByteArray), (gL st c (⟨#[123, 32]⟩ : ByteArray) i ints f).i)
/-- What is behind a condition. -/
def gE (e : GE) (st : Nat → List ByteArray → Int → GR) (k i : Nat) (ints : List ByteArray) (f : Int) (o : ByteArray) : ByteArray × Nat :=
  if k / 16 % 3 = 0 then (o ++ ((⟨#[101, 108, 115, 101, 32]⟩ : ByteArray) ++ (gB st 1 i ints f).1), (gB st 1 i ints f).2)
  else if k / 16 % 3 = 1 then (o ++ ((⟨#[101, 108, 115, 101, 32, 105, 102, 32]⟩ : ByteArray) ++ gD e ints i ++ (⟨#[32]⟩ : ByteArray) ++ (gB st 1 (i + 3) ints f).1), (gB st 1 (i + 3) ints f).2)
  else (o, i)
def gK (k : Nat) : ByteArray := clW.getD (if k = 254 then 3 else k / 16 % 3) ⟨#[]⟩
/-- A statement; f is the fuel before it. -/
def gS (e : GE) : Nat → Nat → List ByteArray → Int → GR
  | 0, i, ints, _ => ⟨⟨#[]⟩, i, ints⟩
  | m + 1, i, ints, f =>
    let k := e.nx i
    let way := (⟨#[32]⟩ : ByteArray) ++ wyW.getD (k / 16 % 4) ⟨#[]⟩ ++ (⟨#[59, 10]⟩ : ByteArray)
    if k % 16 < 3 then ⟨(⟨#[119, 97, 108, 108, 32]⟩ : ByteArray) ++ (gA e ints (i + 1)).1 ++ (⟨#[59, 10]⟩ : ByteArray), (gA e ints (i + 1)).2, ints⟩
    else if k % 16 = 3 then ⟨(⟨#[111, 112, 101, 110, 32]⟩ : ByteArray) ++ (gA e ints (i + 1)).1 ++ (⟨#[59, 10]⟩ : ByteArray), (gA e ints (i + 1)).2, ints⟩
    else if k % 16 = 4 then ⟨(⟨#[108, 97, 110, 101, 32]⟩ : ByteArray) ++ (gA e ints (i + 1)).1 ++ way, (gA e ints (i + 1)).2, ints⟩
    else if k % 16 = 5 then ⟨(⟨#[103, 97, 116, 101, 32]⟩ : ByteArray) ++ gC e ints (i + 1) ++ way, i + 3, ints⟩
    else if k % 16 = 6 then ⟨(⟨#[98, 97, 114, 32]⟩ : ByteArray) ++ gC e ints (i + 1) ++ way, i + 3, ints⟩
    else if k % 16 = 7 then ⟨(⟨#[122, 111, 110, 101, 32]⟩ : ByteArray) ++ (gA e ints (i + 1)).1 ++ (⟨#[32, 99, 111, 115, 116, 32]⟩ : ByteArray) ++ decB (1 + k / 16 % 9) ++ (⟨#[59, 10]⟩ : ByteArray), (gA e ints (i + 1)).2, ints⟩
    else if k % 16 < 11 ∨ f - 1 < 0 then ⟨tgW.getD (k / 16 % 2) ⟨#[]⟩ ++ (gN e ints (i + 1)).1 ++ (⟨#[32, 97, 116, 32]⟩ : ByteArray) ++ gC e ints (gN e ints (i + 1)).2 ++ (⟨#[59, 10]⟩ : ByteArray), (gN e ints (i + 1)).2 + 2, ints⟩
    else if k % 16 = 11 then ⟨(⟨#[108, 101, 116, 32]⟩ : ByteArray) ++ ((⟨#[110]⟩ : ByteArray) ++ decB (k / 16 % 3)) ++ (⟨#[32, 61, 32]⟩ : ByteArray) ++ gI ints e.w (e.nx (i + 1)) ++ (⟨#[59, 10]⟩ : ByteArray), i + 2, ints ++ [(⟨#[110]⟩ : ByteArray) ++ decB (k / 16 % 3)]⟩
    else if k % 16 = 12 then ⟨(⟨#[102, 111, 114, 32, 105, 32, 61, 32, 48, 32, 116, 111, 32]⟩ : ByteArray) ++ decB (k / 16 % 4) ++ (⟨#[32]⟩ : ByteArray) ++ (gB (gS e m) (1 + k / 64 % 2) (i + 1) (ints ++ [(⟨#[105]⟩ : ByteArray)]) (f - 1 - 1)).1, (gB (gS e m) (1 + k / 64 % 2) (i + 1) (ints ++ [(⟨#[105]⟩ : ByteArray)]) (f - 1 - 1)).2, ints⟩
    else if k % 16 = 13 then
      let r := gB (gS e m) 1 (i + 4) ints (f - 1 - 1)
      let q := gE e (gS e m) k r.2 ints (f - 1 - 1) ((⟨#[105, 102, 32]⟩ : ByteArray) ++ gD e ints (i + 1) ++ (⟨#[32]⟩ : ByteArray) ++ r.1)
      ⟨q.1, q.2, ints⟩
    else if gK k = (⟨#[114, 111, 119, 40]⟩ : ByteArray) then ⟨(⟨#[99, 97, 108, 108, 32]⟩ : ByteArray) ++ gK k ++ gI ints e.w (e.nx (i + 1)) ++ ((⟨#[44, 32]⟩ : ByteArray) ++ (gN e ints (i + 2)).1) ++ (⟨#[41, 59, 10]⟩ : ByteArray), (gN e ints (i + 2)).2, ints⟩
    else ⟨(⟨#[99, 97, 108, 108, 32]⟩ : ByteArray) ++ gK k ++ gI ints e.w (e.nx (i + 1)) ++ (⟨#[41, 59, 10]⟩ : ByteArray), i + 2, ints⟩
/-- A program. -/
def gPl (st : Nat → List ByteArray → Int → GR) (n : Nat) : Nat → Nat → ByteArray → Nat → List ByteArray → Int → ByteArray × Nat
  | 0, _, o, i, _, _ => (o, i)
  | c + 1, j, o, i, ints, f => if j < 2 ∨ i < n then gPl st n c (j + 1) (o ++ (st i ints f).s) (st i ints f).i (st i ints f).ints (f - 1) else (o, i)
def gP (cs : ByteArray) (n i : Nat) : ByteArray × Nat :=
  let w := 3 + nx cs n i % 6
  let h := 2 + nx cs n (i + 1) % 6
  let e : GE := ⟨cs, n, w, h, []⟩
  let o := (⟨#[103, 114, 105, 100, 32]⟩ : ByteArray) ++ decB w ++ (⟨#[44, 32]⟩ : ByteArray) ++ decB h ++ (⟨#[59, 10]⟩ : ByteArray)
  let r1 := gB (gS e 3) (1 + nx cs n (i + 2) % 2) (i + 3) [(⟨#[120]⟩ : ByteArray)] 2
  let r2 := gB (gS ⟨cs, n, w, h, [(⟨#[115]⟩ : ByteArray)]⟩ 2) 1 r1.2 [(⟨#[121]⟩ : ByteArray)] 1
  let o2 := o ++ ((⟨#[109, 97, 99, 114, 111, 32, 109, 40, 105, 110, 116, 32, 120, 41, 32]⟩ : ByteArray) ++ r1.1) ++ ((⟨#[109, 97, 99, 114, 111, 32, 114, 111, 119, 40, 105, 110, 116, 32, 121, 44, 32, 116, 101, 120, 116, 32, 115, 41, 32]⟩ : ByteArray) ++ r2.1) ++ (⟨#[109, 97, 99, 114, 111, 32, 100, 101, 101, 112, 40, 105, 110, 116, 32, 100, 41, 32, 123, 32, 105, 102, 32, 100, 32, 62, 32, 48, 32, 123, 32, 99, 97, 108, 108, 32, 100, 101, 101, 112, 40, 100, 32, 45, 32, 49, 41, 59, 32, 125, 32, 101, 108, 115, 101, 32, 123, 32, 119, 97, 108, 108, 32, 48, 44, 32, 48, 59, 32, 125, 32, 125, 10]⟩ : ByteArray)
  gPl (gS e 15) n (2 + nx cs n r2.2 % 9) 0 o2 (r2.2 + 1) [] 14
/-- One of some programs with numbers put in. -/
def gKn (a m : ByteArray) (k : Nat) : ByteArray :=
  [(⟨#[103, 114, 105, 100, 32]⟩ : ByteArray) ++ a ++ (⟨#[44, 32, 51, 59, 32, 119, 97, 108, 108, 32, 49, 44, 32, 48, 32, 116, 111, 32, 49, 44, 32, 49, 59, 32, 115, 116, 97, 116, 105, 111, 110, 32, 34, 65, 34, 32, 97, 116, 32, 48, 44, 32, 48, 59, 32, 99, 104, 97, 114, 103, 101, 114, 32, 34, 67, 34, 32, 97, 116, 32]⟩ : ByteArray) ++ a ++ (⟨#[32, 45, 32, 49, 44, 32, 50, 59]⟩ : ByteArray),
   (⟨#[103, 114, 105, 100, 32, 57, 44, 32, 57, 59, 32, 102, 111, 114, 32, 105, 32, 61, 32, 48, 32, 116, 111, 32, 56, 32, 123, 32, 105, 102, 32, 105, 32, 37, 32, 50, 32, 61, 61, 32, 49, 32, 123, 32, 119, 97, 108, 108, 32, 105, 44, 32, 48, 32, 116, 111, 32, 105, 44, 32, 56, 59, 32, 111, 112, 101, 110, 32, 105, 44, 32, 40, 105, 32, 42, 32, 51, 41, 32, 37, 32, 57, 59, 32, 125, 32, 125, 32, 115, 116, 97, 116, 105, 111, 110, 32, 34, 101, 110, 100, 34, 32, 97, 116, 32, 56, 44, 32]⟩ : ByteArray) ++ a ++ (⟨#[32, 37, 32, 57, 59, 32, 115, 116, 97, 116, 105, 111, 110, 32, 34, 98, 101, 103, 105, 110, 34, 32, 97, 116, 32, 48, 44, 32, 48, 59, 32, 99, 104, 97, 114, 103, 101, 114, 32, 34, 99, 34, 32, 38, 32]⟩ : ByteArray) ++ m ++ (⟨#[32, 97, 116, 32, 52, 44, 32, 52, 59]⟩ : ByteArray),
   (⟨#[103, 114, 105, 100, 32, 53, 44, 32, 53, 59, 32, 108, 97, 110, 101, 32, 48, 44, 32, 48, 32, 116, 111, 32, 52, 44, 32, 48, 32, 101, 97, 115, 116, 59, 32, 108, 97, 110, 101, 32, 52, 44, 32, 48, 32, 116, 111, 32, 52, 44, 32, 52, 32, 115, 111, 117, 116, 104, 59, 32, 108, 97, 110, 101, 32, 48, 44, 32, 52, 32, 116, 111, 32, 52, 44, 32, 52, 32, 119, 101, 115, 116, 59, 32, 108, 97, 110, 101, 32, 48, 44, 32, 48, 32, 116, 111, 32, 48, 44, 32, 52, 32, 110, 111, 114, 116, 104, 59, 32, 103, 97, 116, 101, 32, 50, 44, 32, 48, 32, 115, 111, 117, 116, 104, 59, 32, 103, 97, 116, 101, 32, 50, 44, 32, 52, 32, 110, 111, 114, 116, 104, 59, 32, 115, 116, 97, 116, 105, 111, 110, 32, 34, 109, 105, 100, 34, 32, 97, 116, 32, 50, 44, 32, 50, 59, 32, 115, 116, 97, 116, 105, 111, 110, 32, 34, 116, 111, 112, 34, 32, 97, 116, 32, 50, 44, 32, 48, 59]⟩ : ByteArray),
   (⟨#[109, 97, 99, 114, 111, 32, 97, 103, 97, 105, 110, 40, 105, 110, 116, 32, 107, 41, 32, 123, 32, 99, 97, 108, 108, 32, 97, 103, 97, 105, 110, 40, 107, 32, 43, 32, 49, 41, 59, 32, 125, 32, 103, 114, 105, 100, 32, 50, 44, 32, 50, 59, 32, 99, 97, 108, 108, 32, 97, 103, 97, 105, 110, 40]⟩ : ByteArray) ++ m ++ (⟨#[41, 59]⟩ : ByteArray),
   (⟨#[103, 114, 105, 100, 32, 52, 48, 44, 32, 52, 48, 59, 32, 122, 111, 110, 101, 32, 48, 44, 32, 48, 32, 116, 111, 32, 51, 57, 44, 32, 51, 57, 32, 99, 111, 115, 116, 32, 57, 59, 32, 115, 116, 97, 116, 105, 111, 110, 32, 34, 102, 97, 114, 34, 32, 97, 116, 32, 51, 57, 44, 32, 51, 57, 59, 32, 99, 104, 97, 114, 103, 101, 114, 32, 34, 110, 101, 97, 114, 34, 32, 97, 116, 32]⟩ : ByteArray) ++ m ++ (⟨#[32, 37, 32, 52, 48, 44, 32, 48, 59]⟩ : ByteArray),
   (⟨#[103, 114, 105, 100, 32, 54, 44, 32, 50, 59, 32, 122, 111, 110, 101, 32, 49, 44, 32, 48, 32, 116, 111, 32, 52, 44, 32, 48, 32, 99, 111, 115, 116, 32]⟩ : ByteArray) ++ a ++ (⟨#[59, 32, 115, 116, 97, 116, 105, 111, 110, 32, 34, 65, 34, 32, 97, 116, 32, 48, 44, 32, 48, 59, 32, 115, 116, 97, 116, 105, 111, 110, 32, 34, 66, 34, 32, 97, 116, 32, 53, 44, 32, 48, 59]⟩ : ByteArray),
   (⟨#[109, 97, 99, 114, 111, 32, 115, 40, 116, 101, 120, 116, 32, 116, 44, 32, 105, 110, 116, 32, 120, 41, 32, 123, 32, 115, 116, 97, 116, 105, 111, 110, 32, 116, 32, 38, 32, 120, 32, 38, 32, 34, 47, 34, 32, 38, 32, 40, 120, 32, 43, 32, 49, 41, 32, 97, 116, 32, 120, 44, 32, 48, 59, 32, 125, 32, 103, 114, 105, 100, 32, 56, 44, 32, 50, 59, 32, 102, 111, 114, 32, 105, 32, 61, 32, 49, 32, 116, 111, 32]⟩ : ByteArray) ++ a ++ (⟨#[32, 123, 32, 99, 97, 108, 108, 32, 115, 40, 34, 112, 34, 44, 32, 105, 41, 59, 32, 125]⟩ : ByteArray),
   (⟨#[102, 111, 114, 32, 105, 32, 61, 32, 48, 32, 116, 111, 32]⟩ : ByteArray) ++ m ++ (⟨#[32, 123, 32, 102, 111, 114, 32, 106, 32, 61, 32, 48, 32, 116, 111, 32, 51, 48, 48, 48, 32, 123, 32, 125, 32, 125, 32, 103, 114, 105, 100, 32, 49, 44, 32, 49, 59]⟩ : ByteArray),
   (⟨#[103, 114, 105, 100, 32, 51, 44, 32, 49, 59, 32, 98, 97, 114, 32, 48, 44, 32, 48, 32, 101, 97, 115, 116, 59, 32, 98, 97, 114, 32, 49, 44, 32, 48, 32, 119, 101, 115, 116, 59, 32, 115, 116, 97, 116, 105, 111, 110, 32, 34, 65, 34, 32, 97, 116, 32, 48, 44, 32, 48, 59, 32, 115, 116, 97, 116, 105, 111, 110, 32, 34, 66, 34, 32, 97, 116, 32, 50, 44, 32, 48, 59]⟩ : ByteArray),
   (⟨#[103, 114, 105, 100, 32, 52, 44, 32, 52, 59, 32, 108, 101, 116, 32, 97, 32, 61, 32]⟩ : ByteArray) ++ m ++ (⟨#[59, 32, 123, 32, 125]⟩ : ByteArray)].getD k ⟨#[]⟩
def gKnown (cs : ByteArray) (n i : Nat) : ByteArray := gKn (decB (2 + nx cs n (i + 1) % 8)) (decB (nx cs n (i + 2) % 40)) (nx cs n i % 10)
end Go.Proofs.YtdlahabeegmjiaaDoor

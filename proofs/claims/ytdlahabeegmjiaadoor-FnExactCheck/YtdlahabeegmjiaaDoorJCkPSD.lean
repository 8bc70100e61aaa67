/-
  Plainly: what spec.Parse reads. No run of the program stands in this text.
  Plainly: the reader of trees only goes on, stops at the first fault, and takes a token with every part that it reads.
-/
import Derived.Test.YtdlahabeegmjiaaDoorJCkND0
import Derived.Test.YtdlahabeegmjiaaDoorJCkT
import Derived.Test.YtdlahabeegmjiaaDoorJCkCKV
namespace Go.Proofs.YtdlahabeegmjiaaDoor

/-- The source and its tokens. -/
structure PsE where
  s : ByteArray
  T : List (Nat × Nat × Nat)
/-- Where the reader is; the first offset that does not fit, or -1; whether something is too long. -/
structure Ps where
  at_ : Nat
  bad : Int
  long : Bool
/-- A node with the nodes below it, and their places. -/
structure Pt where
  t : List Nd
  p : List Nat
namespace PsE
def tk (e : PsE) (p : Ps) : Nat × Nat × Nat := e.T.getD p.at_ (0, 0, 0)
def kind (e : PsE) (p : Ps) : Nat := if 0 ≤ p.bad ∨ e.T.length ≤ p.at_ then 0 else (e.tk p).1
def now (e : PsE) (p : Ps) : ByteArray := if e.kind p = 0 then ⟨#[]⟩ else e.s.extract (e.tk p).2.1 ((e.tk p).2.1 + (e.tk p).2.2)
def place (e : PsE) (p : Ps) : Nat := if p.at_ < e.T.length then (e.tk p).2.1 else e.s.size
def is (e : PsE) (p : Ps) (w : ByteArray) : Bool := (decide (e.kind p = 2) || decide (e.kind p = 5)) && decide (e.now p = w)
def wrong (e : PsE) (p : Ps) : Ps := if p.bad < 0 then { p with bad := e.place p } else p
def want (e : PsE) (p : Ps) (w : ByteArray) : Ps := if e.is p w then { p with at_ := p.at_ + 1 } else e.wrong p
/-- A name; where there is none, no bytes. -/
def ident (e : PsE) (p : Ps) : ByteArray × Ps := if e.kind p = 1 then (e.now p, { p with at_ := p.at_ + 1, long := p.long || decide (30 < (e.now p).size) }) else (⟨#[]⟩, e.wrong p)
end PsE
def Ps.on (p : Ps) : Ps := { p with at_ := p.at_ + 1 }
def ptN (n : Nd) (pl : Nat) (ks : List Pt) : Pt := ⟨{ n with count := (ks.length : Int) } :: (ks.map Pt.t).flatten, pl :: (ks.map Pt.p).flatten⟩
def ndK (k : Int) : Nd := ⟨k, 0, .empty, [], [], 0⟩
/-- The sign that is read, the last of those that fit; -1 where none does. -/
def opAt (e : PsE) (p : Ps) : Nat → Int
  | 0 => -1
  | k + 1 => if e.is p (sgW.getD k ⟨#[]⟩) then (k : Int) else opAt e p k
def vl (s : ByteArray) : Int := nval s s.size 0 0
mutual
/-- An expression whose signs bind at least so tightly. -/
def rE (e : PsE) : Nat → Nat → Ps → Pt × Ps
  | 0, _, p => (⟨[], []⟩, p)
  | f + 1, least, p => rEl e f least (rU e f p).1 (rU e f p).2
/-- The signs behind its first part. -/
def rEl (e : PsE) : Nat → Nat → Pt → Ps → Pt × Ps
  | 0, _, x, p => (x, p)
  | f + 1, least, x, p =>
    if e.kind p = 5 then
      (if opAt e p 14 < 0 ∨ sgB.getD (opAt e p 14).toNat 0 < least then (x, p)
      else rEl e f least (ptN { ndK 20 with n := opAt e p 14 } (e.place p) [x, (rE e f (sgB.getD (opAt e p 14).toNat 0 + 1) p.on).1]) (rE e f (sgB.getD (opAt e p 14).toNat 0 + 1) p.on).2)
    else (x, p)
/-- What has no sign between two parts. -/
def rU (e : PsE) : Nat → Ps → Pt × Ps
  | 0, p => (⟨[], []⟩, p)
  | f + 1, p =>
    if e.is p (⟨#[33]⟩ : ByteArray) then (ptN (ndK 21) (e.place p) [(rU e f p.on).1], (rU e f p.on).2)
    else if e.is p (⟨#[45]⟩ : ByteArray) then (ptN (ndK 22) (e.place p) [(rU e f p.on).1], (rU e f p.on).2)
    else if e.is p (⟨#[40]⟩ : ByteArray) then ((rE e f 1 p.on).1, e.want (rE e f 1 p.on).2 (⟨#[41]⟩ : ByteArray))
    else if e.is p (⟨#[116, 114, 117, 101]⟩ : ByteArray) then (ptN { ndK 18 with n := 1 } (e.place p) [], p.on)
    else if e.is p (⟨#[102, 97, 108, 115, 101]⟩ : ByteArray) then (ptN (ndK 18) (e.place p) [], p.on)
    else if e.kind p = 3 then (ptN { ndK 16 with n := vl (e.now p) } (e.place p) [], p.on)
    else if e.kind p = 4 then (ptN { ndK 17 with text := byt (unq (e.now p)).1 } (e.place p) [], { p.on with long := p.long || decide (60 < (unq (e.now p)).1.length) })
    else (ptN { ndK 19 with names := [(e.ident p).1] } (e.place p) [], (e.ident p).2)
end
def rCell (e : PsE) (f : Nat) (p : Ps) : List Pt × Ps :=
  let a := rE e f 1 p
  let c := rE e f 1 (e.want a.2 (⟨#[44]⟩ : ByteArray))
  ([a.1, c.1], c.2)
def rArea (e : PsE) (f : Nat) (p : Ps) : List Pt × Ps :=
  let a := rCell e f p
  if e.is a.2 (⟨#[116, 111]⟩ : ByteArray) then (a.1 ++ (rCell e f a.2.on).1, (rCell e f a.2.on).2) else a
/-- A way; where there is none, the first. -/
def rWay (e : PsE) (p : Ps) : Nat × Ps :=
  if e.is p (wyN.getD 0 ⟨#[]⟩) then (0, p.on) else if e.is p (wyN.getD 1 ⟨#[]⟩) then (1, p.on) else if e.is p (wyN.getD 2 ⟨#[]⟩) then (2, p.on) else if e.is p (wyN.getD 3 ⟨#[]⟩) then (3, p.on) else (0, e.wrong p)
/-- A call's arguments. -/
def rArgs (e : PsE) (f : Nat) : Nat → List Pt → Ps → List Pt × Ps
  | 0, ks, p => (ks, p)
  | c + 1, ks, p =>
    if p.bad < 0 ∧ ¬ (ks.length = 0 ∧ e.is p (⟨#[41]⟩ : ByteArray) = true) then
      (let x := rE e f 1 p
      if e.is x.2 (⟨#[44]⟩ : ByteArray) then rArgs e f c (ks ++ [x.1]) x.2.on else (ks ++ [x.1], x.2))
    else (ks, p)
/-- A defined word's parameters: their types and names. -/
def rPars (e : PsE) : Nat → List Int → List ByteArray → Ps → List Int × List ByteArray × Ps
  | 0, ty, ns, p => (ty, ns, p)
  | c + 1, ty, ns, p =>
    if p.bad < 0 ∧ ¬ (ty.length = 0 ∧ e.is p (⟨#[41]⟩ : ByteArray) = true) then
      (let q := if e.is p (⟨#[105, 110, 116]⟩ : ByteArray) then (0, p.on) else ((1 : Int), e.want p (⟨#[116, 101, 120, 116]⟩ : ByteArray))
      let x := e.ident q.2
      if e.is x.2 (⟨#[44]⟩ : ByteArray) then rPars e c (ty ++ [q.1]) (ns ++ [x.1]) x.2.on else (ty ++ [q.1], ns ++ [x.1], x.2))
    else (ty, ns, p)
/-- So many statements at most, to the end of a block. -/
def rMany (e : PsE) (st : Ps → Pt × Ps) : Nat → List Pt → Ps → List Pt × Ps
  | 0, ks, p => (ks, p)
  | c + 1, ks, p => if p.bad < 0 ∧ ¬ e.is p (⟨#[125]⟩ : ByteArray) = true then rMany e st c (ks ++ [(st p).1]) (st p).2 else (ks, p)
def rBlock (e : PsE) (c : Nat) (st : Ps → Pt × Ps) (p : Ps) : Pt × Ps :=
  let ks := rMany e st c [] (e.want p (⟨#[123]⟩ : ByteArray))
  (ptN (ndK 2) (e.place p) ks.1, e.want ks.2 (⟨#[125]⟩ : ByteArray))
/-- What lies behind 'if'; c bounds how often 'else if' comes. -/
def rIf (e : PsE) (f : Nat) (blk : Ps → Pt × Ps) : Nat → Nat → Ps → Pt × Ps
  | 0, _, p => (⟨[], []⟩, p)
  | c + 1, pl, p =>
    let x := rE e f 1 p
    let y := blk x.2
    if e.is y.2 (⟨#[101, 108, 115, 101]⟩ : ByteArray) then
      (if e.is y.2.on (⟨#[105, 102]⟩ : ByteArray) then (ptN (ndK 6) pl [x.1, y.1, (rIf e f blk c (e.place y.2.on) y.2.on.on).1], (rIf e f blk c (e.place y.2.on) y.2.on.on).2)
      else (ptN (ndK 6) pl [x.1, y.1, (blk y.2.on).1], (blk y.2.on).2))
    else (ptN (ndK 6) pl [x.1, y.1], y.2)
/-- A statement that ends with a semicolon. -/
def rEnd (e : PsE) (n : Nd) (pl : Nat) (r : List Pt × Ps) : Pt × Ps := (ptN n pl r.1, e.want r.2 (⟨#[59]⟩ : ByteArray))
def rFlat (e : PsE) (f : Nat) (p : Ps) : Pt × Ps :=
  if e.is p (⟨#[108, 101, 116]⟩ : ByteArray) then (let x := e.ident p.on; let y := rE e f 1 (e.want x.2 (⟨#[61]⟩ : ByteArray)); rEnd e { ndK 3 with names := [x.1] } (e.place p) ([y.1], y.2))
  else if e.is p (⟨#[99, 97, 108, 108]⟩ : ByteArray) then (let x := e.ident p.on; let y := rArgs e f e.T.length [] (e.want x.2 (⟨#[40]⟩ : ByteArray)); let z := e.want y.2 (⟨#[41]⟩ : ByteArray); rEnd e { ndK 4 with names := [x.1] } (e.place p) (y.1, { z with long := z.long || decide (10 < y.1.length) }))
  else if e.is p (⟨#[103, 114, 105, 100]⟩ : ByteArray) then rEnd e (ndK 7) (e.place p) (rCell e f p.on)
  else if e.is p (⟨#[119, 97, 108, 108]⟩ : ByteArray) then rEnd e (ndK 8) (e.place p) (rArea e f p.on)
  else if e.is p (⟨#[111, 112, 101, 110]⟩ : ByteArray) then rEnd e (ndK 9) (e.place p) (rArea e f p.on)
  else if e.is p (⟨#[108, 97, 110, 101]⟩ : ByteArray) then (let x := rArea e f p.on; let y := rWay e x.2; rEnd e { ndK 10 with n := y.1 } (e.place p) (x.1, y.2))
  else if e.is p (⟨#[103, 97, 116, 101]⟩ : ByteArray) then (let x := rCell e f p.on; let y := rWay e x.2; rEnd e { ndK 11 with n := y.1 } (e.place p) (x.1, y.2))
  else if e.is p (⟨#[98, 97, 114]⟩ : ByteArray) then (let x := rCell e f p.on; let y := rWay e x.2; rEnd e { ndK 12 with n := y.1 } (e.place p) (x.1, y.2))
  else if e.is p (⟨#[122, 111, 110, 101]⟩ : ByteArray) then (let x := rArea e f p.on; let y := rE e f 1 (e.want x.2 (⟨#[99, 111, 115, 116]⟩ : ByteArray)); rEnd e (ndK 13) (e.place p) (x.1 ++ [y.1], y.2))
  else if e.is p (⟨#[115, 116, 97, 116, 105, 111, 110]⟩ : ByteArray) || e.is p (⟨#[99, 104, 97, 114, 103, 101, 114]⟩ : ByteArray) then (let x := rE e f 1 p.on; let y := rCell e f (e.want x.2 (⟨#[97, 116]⟩ : ByteArray)); rEnd e (ndK (if e.is p (⟨#[99, 104, 97, 114, 103, 101, 114]⟩ : ByteArray) then 15 else 14)) (e.place p) (x.1 :: y.1, y.2))
  else rEnd e (ndK 0) (e.place p) ([], e.wrong p)
/-- A statement; m bounds how deep blocks lie in it. -/
def rS (e : PsE) (f : Nat) : Nat → Ps → Pt × Ps
  | 0, p => (⟨[], []⟩, p)
  | m + 1, p =>
    let blk := rBlock e e.T.length (rS e f m)
    if e.is p (⟨#[105, 102]⟩ : ByteArray) then rIf e f blk e.T.length (e.place p) p.on
    else if e.is p (⟨#[102, 111, 114]⟩ : ByteArray) then
      (let x := e.ident p.on
      let y := rE e f 1 (e.want x.2 (⟨#[61]⟩ : ByteArray))
      let z := rE e f 1 (e.want y.2 (⟨#[116, 111]⟩ : ByteArray))
      let u := blk z.2
      (ptN { ndK 5 with names := [x.1] } (e.place p) [y.1, z.1, u.1], u.2))
    else rFlat e f p
def rMac (e : PsE) (f m pl : Nat) (p : Ps) : Pt × Ps :=
  let x := e.ident p
  let y := rPars e e.T.length [] [x.1] (e.want x.2 (⟨#[40]⟩ : ByteArray))
  let z := e.want y.2.2 (⟨#[41]⟩ : ByteArray)
  let u := rBlock e e.T.length (rS e f m) { z with long := z.long || decide (10 < y.1.length) }
  (ptN { ndK 1 with names := y.2.1, types := y.1 } pl [u.1], u.2)
/-- The whole source. -/
def rTop (e : PsE) (f m : Nat) : Nat → List Pt → Ps → List Pt × Ps
  | 0, ks, p => (ks, p)
  | c + 1, ks, p =>
    if p.bad < 0 ∧ p.at_ < e.T.length then
      (if e.is p (⟨#[109, 97, 99, 114, 111]⟩ : ByteArray) then rTop e f m c (ks ++ [(rMac e f m (e.place p) p.on).1]) (rMac e f m (e.place p) p.on).2 else rTop e f m c (ks ++ [(rS e f m p).1]) (rS e f m p).2)
    else (ks, p)
/-- What Parse reads: the parts of the program, and where the reader came to. Each round of every loop takes a token or finds a fault, so as much fuel as there are tokens serves. -/
def rProg (s : ByteArray) (T : List (Nat × Nat × Nat)) : Pt × Ps :=
  let e : PsE := ⟨s, T⟩
  let r := rTop e (2 * T.length + 3) (T.length + 1) (T.length + 1) [] ⟨0, -1, false⟩
  (ptN (ndK 0) 0 r.1, r.2)
end Go.Proofs.YtdlahabeegmjiaaDoor

namespace Go.Proofs.YtdlahabeegmjiaaDoor

/-- From p the reader may come to q. -/
structure Mv (e : PsE) (p q : Ps) : Prop where
  le : p.at_ ≤ q.at_
  top : p.at_ ≤ e.T.length → q.at_ ≤ e.T.length
  bad : 0 ≤ p.bad → q.bad = p.bad ∧ q.at_ = p.at_
/-- .. and took a token, or found a fault. -/
def Pg (p q : Ps) : Prop := 0 ≤ q.bad ∨ p.at_ < q.at_
theorem Mv.refl (e : PsE) (p : Ps) : Mv e p p := ⟨Nat.le_refl _, fun h => h, fun _ => ⟨rfl, rfl⟩⟩
theorem Mv.trans {e : PsE} {p q r : Ps} (h : Mv e p q) (k : Mv e q r) : Mv e p r :=
  ⟨Nat.le_trans h.le k.le, fun g => k.top (h.top g), fun g => by
    have h1 := h.bad g
    have h2 := k.bad (by rw [h1.1]; exact g)
    exact ⟨h2.1.trans h1.1, h2.2.trans h1.2⟩⟩
theorem Pg.then {e : PsE} {p q r : Ps} (h : Pg p q) (k : Mv e q r) : Pg p r := by
  rcases h with h | h
  · exact .inl (by rw [(k.bad h).1]; exact h)
  · exact .inr (Nat.lt_of_lt_of_le h k.le)
theorem Pg.after {e : PsE} {p q r : Ps} (h : Mv e p q) (k : Pg q r) : Pg p r := by
  rcases k with k | k
  · exact .inl k
  · exact .inr (Nat.lt_of_le_of_lt h.le k)
theorem kind_pos {e : PsE} {p : Ps} (h : e.kind p ≠ 0) : p.bad < 0 ∧ p.at_ < e.T.length := by
  unfold PsE.kind at h
  by_cases c : 0 ≤ p.bad ∨ e.T.length ≤ p.at_
  · rw [if_pos c] at h; exact absurd rfl h
  · omega
theorem is_kind {e : PsE} {p : Ps} {w : ByteArray} (h : e.is p w = true) : e.kind p ≠ 0 := by
  unfold PsE.is at h
  intro g
  rw [g] at h
  simp at h
theorem mv_on {e : PsE} {p : Ps} (h : e.kind p ≠ 0) : Mv e p p.on ∧ Pg p p.on := by
  have k := kind_pos h
  exact ⟨⟨Nat.le_succ _, fun _ => by show p.at_ + 1 ≤ _; omega, fun g => by omega⟩, .inr (Nat.lt_succ_self _)⟩
theorem mv_wrong (e : PsE) (p : Ps) : Mv e p (e.wrong p) ∧ Pg p (e.wrong p) := by
  unfold PsE.wrong
  by_cases c : p.bad < 0
  · rw [if_pos c]
    exact ⟨⟨Nat.le_refl _, fun h => h, fun g => by omega⟩, .inl (by show (0 : Int) ≤ (e.place p : Nat); omega)⟩
  · rw [if_neg c]
    exact ⟨Mv.refl _ _, .inl (by omega)⟩
theorem mv_want (e : PsE) (p : Ps) (w : ByteArray) : Mv e p (e.want p w) ∧ Pg p (e.want p w) := by
  unfold PsE.want
  by_cases c : e.is p w = true
  · rw [if_pos c]; exact mv_on (is_kind c)
  · rw [if_neg c]; exact mv_wrong e p
theorem mv_long {e : PsE} {p q : Ps} (b : Bool) (h : Mv e p q) : Mv e p { q with long := b } := ⟨h.le, h.top, h.bad⟩
theorem pg_long {p q : Ps} (b : Bool) (h : Pg p q) : Pg p { q with long := b } := h
theorem mv_ident (e : PsE) (p : Ps) : Mv e p (e.ident p).2 ∧ Pg p (e.ident p).2 := by
  unfold PsE.ident
  by_cases c : e.kind p = 1
  · rw [if_pos c]
    have h := mv_on (e := e) (p := p) (by omega)
    exact ⟨mv_long _ h.1, pg_long _ h.2⟩
  · rw [if_neg c]; exact mv_wrong e p
/-- Expressions. -/
theorem mv_expr (e : PsE) : ∀ f, (∀ l p, Mv e p (rE e f l p).2) ∧ (∀ l x p, Mv e p (rEl e f l x p).2) ∧ (∀ p, Mv e p (rU e f p).2)
  | 0 => ⟨fun _ p => by rw [rE]; exact Mv.refl _ _, fun _ _ p => by rw [rEl]; exact Mv.refl _ _, fun p => by rw [rU]; exact Mv.refl _ _⟩
  | f + 1 => by
    obtain ⟨i1, i2, i3⟩ := mv_expr e f
    refine ⟨fun l p => ?_, fun l x p => ?_, fun p => ?_⟩
    · rw [rE]; exact (i3 p).trans (i2 _ _ _)
    · rw [rEl]
      by_cases c : e.kind p = 5
      · rw [if_pos c]
        by_cases d : opAt e p 14 < 0 ∨ sgB.getD (opAt e p 14).toNat 0 < l
        · rw [if_pos d]; exact Mv.refl _ _
        · rw [if_neg d]
          exact ((mv_on (by omega)).1.trans (i1 _ _)).trans (i2 _ _ _)
      · rw [if_neg c]; exact Mv.refl _ _
    · rw [rU]
      repeat' split
      · rename_i c; exact (mv_on (is_kind c)).1.trans (i3 _)
      · rename_i c; exact (mv_on (is_kind c)).1.trans (i3 _)
      · rename_i c; exact ((mv_on (is_kind c)).1.trans (i1 _ _)).trans (mv_want _ _ _).1
      · rename_i c; exact (mv_on (is_kind c)).1
      · rename_i c; exact (mv_on (is_kind c)).1
      · rename_i c; exact (mv_on (by omega)).1
      · rename_i c; exact mv_long _ (mv_on (by omega)).1
      · exact (mv_ident e p).1
theorem pg_unary (e : PsE) (f : Nat) (p : Ps) : Pg p (rU e (f + 1) p).2 := by
  obtain ⟨i1, i2, i3⟩ := mv_expr e f
  rw [rU]
  repeat' split
  · rename_i c; exact (mv_on (is_kind c)).2.then (i3 _)
  · rename_i c; exact (mv_on (is_kind c)).2.then (i3 _)
  · rename_i c; exact ((mv_on (is_kind c)).2.then (i1 _ _)).then (mv_want _ _ _).1
  · rename_i c; exact (mv_on (is_kind c)).2
  · rename_i c; exact (mv_on (is_kind c)).2
  · rename_i c; exact (mv_on (e := e) (by omega)).2
  · rename_i c; exact pg_long _ (mv_on (e := e) (by omega)).2
  · exact (mv_ident e p).2
theorem pg_expr (e : PsE) (f l : Nat) (p : Ps) : Pg p (rE e (f + 2) l p).2 := by
  rw [rE]
  exact (pg_unary e f p).then ((mv_expr e (f + 1)).2.1 _ _ _)
theorem mv_cell (e : PsE) (f : Nat) (p : Ps) : Mv e p (rCell e f p).2 := ((mv_expr e f).1 _ _ |>.trans (mv_want _ _ _).1).trans ((mv_expr e f).1 _ _)
theorem mv_area (e : PsE) (f : Nat) (p : Ps) : Mv e p (rArea e f p).2 := by
  unfold rArea
  simp only
  by_cases c : e.is (rCell e f p).2 ⟨#[116, 111]⟩ = true
  · rw [if_pos c]; exact ((mv_cell e f p).trans (mv_on (is_kind c)).1).trans (mv_cell e f _)
  · rw [if_neg c]; exact mv_cell e f p
theorem mv_way (e : PsE) (p : Ps) : Mv e p (rWay e p).2 := by
  unfold rWay
  repeat' split
  · rename_i c; exact (mv_on (is_kind c)).1
  · rename_i c; exact (mv_on (is_kind c)).1
  · rename_i c; exact (mv_on (is_kind c)).1
  · rename_i c; exact (mv_on (is_kind c)).1
  · exact (mv_wrong e p).1
theorem mv_args (e : PsE) (f : Nat) : ∀ c ks p, Mv e p (rArgs e f c ks p).2
  | 0, _, p => Mv.refl _ _
  | c + 1, ks, p => by
    rw [rArgs]
    split
    · simp only
      split
      · rename_i h; exact (((mv_expr e f).1 _ _).trans (mv_on (is_kind h)).1).trans (mv_args e f c _ _)
      · exact (mv_expr e f).1 _ _
    · exact Mv.refl _ _
theorem mv_pars (e : PsE) : ∀ c ty ns p, Mv e p (rPars e c ty ns p).2.2
  | 0, _, _, p => Mv.refl _ _
  | c + 1, ty, ns, p => by
    rw [rPars]
    split
    · have h1 : Mv e p (if e.is p ⟨#[105, 110, 116]⟩ then ((0 : Int), p.on) else (1, e.want p ⟨#[116, 101, 120, 116]⟩)).2 := by
        split
        · rename_i h; exact (mv_on (is_kind h)).1
        · exact (mv_want _ _ _).1
      simp only
      generalize (if e.is p ⟨#[105, 110, 116]⟩ then ((0 : Int), p.on) else (1, e.want p ⟨#[116, 101, 120, 116]⟩)) = q at h1 ⊢
      split
      · rename_i h; exact ((h1.trans (mv_ident e _).1).trans (mv_on (is_kind h)).1).trans (mv_pars e c _ _ _)
      · exact h1.trans (mv_ident e _).1
    · exact Mv.refl _ _
/-- Statements. -/
theorem mv_many (e : PsE) {st : Ps → Pt × Ps} (hs : ∀ p, Mv e p (st p).2) : ∀ c ks p, Mv e p (rMany e st c ks p).2
  | 0, _, p => Mv.refl _ _
  | c + 1, ks, p => by
    rw [rMany]
    split
    · exact (hs p).trans (mv_many e hs c _ _)
    · exact Mv.refl _ _
theorem mv_block (e : PsE) {st : Ps → Pt × Ps} (hs : ∀ p, Mv e p (st p).2) (c : Nat) (p : Ps) : Mv e p (rBlock e c st p).2 := ((mv_want _ _ _).1.trans (mv_many e hs c _ _)).trans (mv_want _ _ _).1
theorem pg_block (e : PsE) {st : Ps → Pt × Ps} (hs : ∀ p, Mv e p (st p).2) (c : Nat) (p : Ps) : Pg p (rBlock e c st p).2 := ((mv_want _ _ _).2.then (mv_many e hs c _ _)).then (mv_want _ _ _).1
theorem mv_if (e : PsE) (f : Nat) {blk : Ps → Pt × Ps} (hb : ∀ p, Mv e p (blk p).2) : ∀ c pl p, Mv e p (rIf e f blk c pl p).2
  | 0, _, p => Mv.refl _ _
  | c + 1, pl, p => by
    have h0 := ((mv_expr e f).1 1 p).trans (hb _)
    rw [rIf]
    split
    · rename_i h1
      split
      · rename_i h2; exact ((h0.trans (mv_on (is_kind h1)).1).trans (mv_on (is_kind h2)).1).trans (mv_if e f hb c _ _)
      · exact (h0.trans (mv_on (is_kind h1)).1).trans (hb _)
    · exact h0
theorem mv_end (e : PsE) (n : Nd) (pl : Nat) {p : Ps} {r : List Pt × Ps} (h : Mv e p r.2) : Mv e p (rEnd e n pl r).2 := h.trans (mv_want _ _ _).1
theorem pg_end (e : PsE) (n : Nd) (pl : Nat) (p : Ps) (r : List Pt × Ps) (h : Mv e p r.2) : Pg p (rEnd e n pl r).2 := Pg.after h (mv_want _ _ _).2
theorem or_kind {e : PsE} {p : Ps} {u v : ByteArray} (c : (e.is p u || e.is p v) = true) : e.kind p ≠ 0 := by
  rw [Bool.or_eq_true] at c
  rcases c with c | c <;> exact is_kind c
theorem mv_flat (e : PsE) (f : Nat) (p : Ps) : Mv e p (rFlat e f p).2 ∧ Pg p (rFlat e f p).2 := by
  have key : ∀ (n : Nd) (pl : Nat) (r : List Pt × Ps), Mv e p r.2 → Mv e p (rEnd e n pl r).2 ∧ Pg p (rEnd e n pl r).2 := fun n pl r h => ⟨mv_end e n pl h, pg_end e n pl p r h⟩
  have hE := (mv_expr e f).1
  unfold rFlat
  by_cases c : e.is p ⟨#[108, 101, 116]⟩ = true
  · rw [if_pos c]; exact key _ _ _ ((((mv_on (is_kind c)).1.trans (mv_ident e _).1).trans (mv_want _ _ _).1).trans (hE _ _))
  rw [if_neg c]
  clear c
  by_cases c : e.is p ⟨#[99, 97, 108, 108]⟩ = true
  · rw [if_pos c]; exact key _ _ _ (mv_long _ (((((mv_on (is_kind c)).1.trans (mv_ident e _).1).trans (mv_want _ _ _).1).trans (mv_args e f _ _ _)).trans (mv_want _ _ _).1))
  rw [if_neg c]
  clear c
  by_cases c : e.is p ⟨#[103, 114, 105, 100]⟩ = true
  · rw [if_pos c]; exact key _ _ _ ((mv_on (is_kind c)).1.trans (mv_cell e f _))
  rw [if_neg c]
  clear c
  by_cases c : e.is p ⟨#[119, 97, 108, 108]⟩ = true
  · rw [if_pos c]; exact key _ _ _ ((mv_on (is_kind c)).1.trans (mv_area e f _))
  rw [if_neg c]
  clear c
  by_cases c : e.is p ⟨#[111, 112, 101, 110]⟩ = true
  · rw [if_pos c]; exact key _ _ _ ((mv_on (is_kind c)).1.trans (mv_area e f _))
  rw [if_neg c]
  clear c
  by_cases c : e.is p ⟨#[108, 97, 110, 101]⟩ = true
  · rw [if_pos c]; exact key _ _ _ (((mv_on (is_kind c)).1.trans (mv_area e f _)).trans (mv_way e _))
  rw [if_neg c]
  clear c
  by_cases c : e.is p ⟨#[103, 97, 116, 101]⟩ = true
  · rw [if_pos c]; exact key _ _ _ (((mv_on (is_kind c)).1.trans (mv_cell e f _)).trans (mv_way e _))
  rw [if_neg c]
  clear c
  by_cases c : e.is p ⟨#[98, 97, 114]⟩ = true
  · rw [if_pos c]; exact key _ _ _ (((mv_on (is_kind c)).1.trans (mv_cell e f _)).trans (mv_way e _))
  rw [if_neg c]
  clear c
  by_cases c : e.is p ⟨#[122, 111, 110, 101]⟩ = true
  · rw [if_pos c]; exact key _ _ _ ((((mv_on (is_kind c)).1.trans (mv_area e f _)).trans (mv_want _ _ _).1).trans (hE _ _))
  rw [if_neg c]
  clear c
  by_cases c : (e.is p ⟨#[115, 116, 97, 116, 105, 111, 110]⟩ || e.is p ⟨#[99, 104, 97, 114, 103, 101, 114]⟩) = true
  · rw [if_pos c]; exact key _ _ _ ((((mv_on (or_kind c)).1.trans (hE _ _)).trans (mv_want _ _ _).1).trans (mv_cell e f _))
  rw [if_neg c]
  exact key _ _ _ (mv_wrong e p).1
theorem mv_stat (e : PsE) (f : Nat) : ∀ m p, Mv e p (rS e f m p).2
  | 0, p => Mv.refl _ _
  | m + 1, p => by
    have hs := mv_stat e f m
    have hE := (mv_expr e f).1
    rw [rS]
    simp only
    split
    · rename_i c; exact (mv_on (is_kind c)).1.trans (mv_if e f (fun q => mv_block e hs _ q) _ _ _)
    · split
      · rename_i c; exact ((((((mv_on (is_kind c)).1.trans (mv_ident e _).1).trans (mv_want _ _ _).1).trans (hE _ _)).trans (mv_want _ _ _).1).trans (hE _ _)).trans (mv_block e hs _ _)
      · exact (mv_flat e f p).1
theorem pg_stat (e : PsE) (f m : Nat) (p : Ps) : Pg p (rS e f (m + 1) p).2 := by
  have hs := mv_stat e f m
  have hE := (mv_expr e f).1
  rw [rS]
  simp only
  split
  · rename_i c; exact (mv_on (is_kind c)).2.then (mv_if e f (fun q => mv_block e hs _ q) _ _ _)
  · split
    · rename_i c; exact (mv_on (is_kind c)).2.then ((((((mv_ident e _).1.trans (mv_want _ _ _).1).trans (hE _ _)).trans (mv_want _ _ _).1).trans (hE _ _)).trans (mv_block e hs _ _))
    · exact (mv_flat e f p).2
theorem mv_mac (e : PsE) (f m pl : Nat) (p : Ps) : Mv e p (rMac e f m pl p).2 := by
  unfold rMac
  simp only
  exact (((mv_ident e p).1.trans (mv_want _ _ _).1).trans (mv_pars e _ _ _ _)).trans ((mv_long _ (mv_want _ _ _).1).trans (mv_block e (mv_stat e f m) _ _))
end Go.Proofs.YtdlahabeegmjiaaDoor

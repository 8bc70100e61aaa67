/-
  Nodes, plainly.
  Plainly: where a branch ends (branchEnd, l2end), what is good (l2good), and that they agree.
  Plainly: what spec.Check answers of a valid tree. No run of the program stands in this text.
  The walks of toByteS and eqByteS.
-/
import Derived.Test.YtdlahabeegmjiaaDoorJCkZ
import Derived.Test.YtdlahabeegmjiaaDoorJCkT
namespace Go.Proofs.YtdlahabeegmjiaaDoor

/-- A node. -/
structure Nd where
  kind : Int
  n : Int
  text : ByteArray
  names : List ByteArray
  types : List Int
  count : Int
def Nd.zero : Nd := ⟨0, 0, .empty, [], [], 0⟩
end Go.Proofs.YtdlahabeegmjiaaDoor

namespace Go.Proofs.YtdlahabeegmjiaaDoor

/-- What branchEnd's loop comes to: c children still to come, the next has number i, the end so far. -/
def bLoop (n : Nat) (st : Nat → Nat → Nat → Bool) (g : Nat → Nat) (p : Nat) : Nat → Nat → Nat → Nat
  | 0, _, e => e
  | c + 1, i, e => if e = n then 0 else if st p i e = true then (if g e = 0 then 0 else bLoop n st g p c (i + 1) (g e)) else 0
/-- branchEnd, with as many levels as are left. -/
def bE (n : Nat) (cnt : Nat → Int) (ok : Nat → Bool) (st : Nat → Nat → Nat → Bool) : Nat → Nat → Nat
  | 0, _ => 0
  | f + 1, i => if ok i = true then bLoop n st (bE n cnt ok st f) i (cnt i).toNat 0 (i + 1) else 0
/-- l2end's loop. -/
def sLoop (g : Nat → Option Nat) : Nat → Nat → Option Nat
  | 0, e => some e
  | c + 1, e => match g e with
    | none => none
    | some a => sLoop g c a
/-- l2end. -/
def sE (n : Nat) (cnt : Nat → Int) : Nat → Nat → Option Nat
  | 0, _ => none
  | f + 1, i => if n ≤ i ∨ cnt i < 0 ∨ (n : Int) < cnt i then none else sLoop (sE n cnt f) (cnt i).toNat (i + 1)
/-- Where the node behind another one lies. -/
def nxT (n : Nat) (cnt : Nat → Int) (i : Nat) : Nat := (sE n cnt 60 i).getD 0
/-- l2good's last loop. -/
def gLoop (nxT : Nat → Nat) (st : Nat → Nat → Nat → Bool) (g : Nat → Bool) (p : Nat) : Nat → Nat → Nat → Bool
  | 0, _, _ => true
  | c + 1, i, e => st p i e && (g e && gLoop nxT st g p c (i + 1) (nxT e))
/-- l2good. -/
def sG (n : Nat) (cnt : Nat → Int) (ok : Nat → Bool) (st : Nat → Nat → Nat → Bool) : Nat → Nat → Bool
  | 0, _ => false
  | f + 1, i => ok i && gLoop (nxT n cnt) st (sG n cnt ok st f) i (cnt i).toNat 0 (i + 1)

/-- The sum of the counts less one. -/
def sm (cnt : Nat → Int) : Nat → Nat → Int
  | _, 0 => 0
  | a, l + 1 => (cnt a - 1) + sm cnt (a + 1) l
theorem sm_add (cnt : Nat → Int) (a l m : Nat) : sm cnt a (l + m) = sm cnt a l + sm cnt (a + l) m := by
  induction l generalizing a with
  | zero => simp [sm]
  | succ l ih => rw [show l + 1 + m = (l + m) + 1 by omega]; simp only [sm]; rw [ih, show a + 1 + l = a + (l + 1) by omega]; omega
theorem sm_succ (cnt : Nat → Int) (a l : Nat) : sm cnt a (l + 1) = sm cnt a l + (cnt (a + l) - 1) := by
  rw [sm_add]; simp [sm]

theorem sLoop_mono {g g' : Nat → Option Nat} (h : ∀ i e, g i = some e → g' i = some e) : ∀ c i e, sLoop g c i = some e → sLoop g' c i = some e := by
  intro c
  induction c with
  | zero => intro i e he; exact he
  | succ c ih =>
    intro i e he
    simp only [sLoop] at he ⊢
    cases hg : g i with
    | none => rw [hg] at he; cases he
    | some a => rw [hg] at he; rw [h i a hg]; exact ih a e he
theorem sE_step (n : Nat) (cnt : Nat → Int) : ∀ f i e, sE n cnt f i = some e → sE n cnt (f + 1) i = some e := by
  intro f
  induction f with
  | zero => intro i e he; cases he
  | succ f ih =>
    intro i e he
    rw [sE] at he ⊢
    split at he
    · cases he
    · rename_i hc
      rw [if_neg hc]; exact sLoop_mono ih _ _ _ he
theorem sE_mono (n : Nat) (cnt : Nat → Int) {f f' : Nat} (hf : f ≤ f') {i e : Nat} (h : sE n cnt f i = some e) : sE n cnt f' i = some e := by
  induction hf with
  | refl => exact h
  | step _ ih => exact sE_step n cnt _ _ _ ih
theorem nx_of {n : Nat} {cnt : Nat → Int} {f : Nat} (hf : f ≤ 60) {i e : Nat} (h : sE n cnt f i = some e) : nxT n cnt i = e := by
  unfold nxT; rw [sE_mono n cnt hf h]; rfl

/-- A branch: from i to e. -/
structure Br (n : Nat) (cnt : Nat → Int) (i e : Nat) : Prop where
  lt : i < e
  le : e ≤ n
  tot : sm cnt i (e - i) = -1
  pos : ∀ l, 0 < l → l < e - i → 0 ≤ sm cnt i l
  cn : ∀ j, i ≤ j → j < e → 0 ≤ cnt j ∧ cnt j ≤ n
theorem br_loop {n : Nat} {cnt : Nat → Int} {g : Nat → Option Nat} (hg : ∀ i e, g i = some e → Br n cnt i e) : ∀ c a e, a ≤ n → sLoop g c a = some e →
    a ≤ e ∧ e ≤ n ∧ sm cnt a (e - a) = -(c : Int) ∧ (∀ l, l < e - a → -(c : Int) < sm cnt a l) ∧ (∀ j, a ≤ j → j < e → 0 ≤ cnt j ∧ cnt j ≤ n) := by
  intro c
  induction c with
  | zero =>
    intro a e ha h
    obtain rfl := Option.some.inj h
    refine ⟨Nat.le_refl _, ha, by rw [Nat.sub_self]; rfl, fun l hl => by omega, fun j h1 h2 => by omega⟩
  | succ c ih =>
    intro a e ha h
    simp only [sLoop] at h
    cases hga : g a with
    | none => rw [hga] at h; cases h
    | some b =>
      rw [hga] at h
      have hb := hg a b hga
      obtain ⟨h1, h2, h3, h4, h5⟩ := ih b e hb.le h
      have hlt := hb.lt
      refine ⟨by omega, h2, ?_, ?_, ?_⟩
      · rw [show e - a = (b - a) + (e - b) by omega, sm_add, hb.tot, show a + (b - a) = b by omega, h3]; omega
      · intro l hl
        by_cases c1 : l < b - a
        · by_cases c0 : l = 0
          · subst c0; simp only [sm]; omega
          · have := hb.pos l (by omega) c1; omega
        · have := h4 (l - (b - a)) (by omega)
          rw [show l = (b - a) + (l - (b - a)) by omega, sm_add, hb.tot, show a + (b - a) = b by omega]; omega
      · intro j j1 j2
        by_cases c1 : j < b
        · exact hb.cn j j1 c1
        · exact h5 j (by omega) j2
theorem sE_br (n : Nat) (cnt : Nat → Int) : ∀ f i e, sE n cnt f i = some e → Br n cnt i e := by
  intro f
  induction f with
  | zero => intro i e h; cases h
  | succ f ih =>
    intro i e h
    rw [sE] at h
    split at h
    · cases h
    · rename_i hc
      obtain ⟨h1, h2, h3, h4, h5⟩ := br_loop ih _ (i + 1) e (by omega) h
      have hcn : (((cnt i).toNat : Nat) : Int) = cnt i := Int.toNat_of_nonneg (by omega)
      rw [hcn] at h3 h4
      refine ⟨by omega, h2, ?_, ?_, ?_⟩
      · rw [show e - i = (e - (i + 1)) + 1 by omega]; simp only [sm]; rw [h3]; omega
      · intro l l0 hl
        obtain ⟨m, rfl⟩ : ∃ m, l = m + 1 := ⟨l - 1, by omega⟩
        simp only [sm]
        have := h4 m (by omega); omega
      · intro j j1 j2
        by_cases c1 : j = i
        · subst c1; omega
        · exact h5 j (by omega) j2
/-- A child's number is no greater than its place. -/
theorem sLoop_ge {g : Nat → Option Nat} (hg : ∀ i e, g i = some e → i < e) : ∀ c a e, sLoop g c a = some e → a + c ≤ e := by
  intro c
  induction c with
  | zero => intro a e h; obtain rfl := Option.some.inj h; omega
  | succ c ih =>
    intro a e h
    simp only [sLoop] at h
    cases hga : g a with
    | none => rw [hga] at h; cases h
    | some b => rw [hga] at h; have := ih b e h; have := hg a b hga; omega

theorem bE_sE {n : Nat} {cnt : Nat → Int} {ok : Nat → Bool} {st : Nat → Nat → Nat → Bool} (hok : ∀ i, ok i = true → 0 ≤ cnt i) :
    ∀ f, f ≤ 60 → ∀ i e, i < n → e ≠ 0 → (bE n cnt ok st f i = e ↔ sE n cnt f i = some e ∧ sG n cnt ok st f i = true) := by
  intro f
  induction f with
  | zero => intro _ i e _ he; simp [bE, sE]; omega
  | succ f ih =>
    intro hf i e hi he
    have ih := ih (by omega)
    have hL : ∀ c k a, a ≤ n → a ≠ 0 → (bLoop n st (bE n cnt ok st f) i c k a = e ↔ sLoop (sE n cnt f) c a = some e ∧ gLoop (nxT n cnt) st (sG n cnt ok st f) i c k a = true) := by
      intro c
      induction c with
      | zero => intro k a ha ha0; simp [bLoop, sLoop, gLoop]
      | succ c ihc =>
        intro k a ha ha0
        simp only [bLoop, sLoop, gLoop]
        by_cases c1 : a = n
        · rw [if_pos c1]
          have : sE n cnt f a = none := by
            cases f with
            | zero => rfl
            | succ f => rw [sE, if_pos (by omega)]
          rw [this]; simp; omega
        · rw [if_neg c1]
          by_cases c2 : st i k a = true
          · rw [if_pos c2, c2, Bool.true_and]
            by_cases c3 : bE n cnt ok st f a = 0
            · rw [if_pos c3]
              constructor
              · intro h; omega
              · rintro ⟨h1, h2⟩
                cases hs : sE n cnt f a with
                | none => rw [hs] at h1; cases h1
                | some b =>
                  rw [Bool.and_eq_true] at h2
                  have hb := (sE_br n cnt f a b hs).lt
                  have := (ih a b (by omega) (by omega)).2 ⟨hs, h2.1⟩
                  omega
            · rw [if_neg c3]
              obtain ⟨h1, h2⟩ := (ih a _ (by omega) c3).1 rfl
              rw [h1, h2, Bool.true_and]
              have hb := sE_br n cnt f a _ h1
              rw [nx_of (by omega) h1]
              exact ihc (k + 1) _ hb.le c3
          · rw [if_neg c2]
            simp [c2]; omega
    simp only [bE, sG]
    rw [sE]
    by_cases c1 : ok i = true
    · rw [if_pos c1, c1, Bool.true_and]
      have h0 := hok i c1
      rw [hL _ 0 (i + 1) (by omega) (by omega)]
      by_cases c2 : n ≤ i ∨ cnt i < 0 ∨ (n : Int) < cnt i
      · rw [if_pos c2]
        constructor
        · rintro ⟨h1, _⟩
          have h3 := br_loop (sE_br n cnt f) _ _ _ (by omega) h1
          have h4 := sLoop_ge (fun i e h => (sE_br n cnt f i e h).lt) _ _ _ h1
          omega
        · rintro ⟨h1, _⟩; cases h1
      · rw [if_neg c2]
    · rw [if_neg c1]; simp [c1]; omega
end Go.Proofs.YtdlahabeegmjiaaDoor

namespace Go.Proofs.YtdlahabeegmjiaaDoor

def ndA (L : List Nd) (i : Nat) : Nd := L.getD i .zero
/-- So many nodes beside each other, from a on. -/
def kds (L : List Nd) : Nat → Nat → List Nat
  | 0, _ => []
  | c + 1, a => a :: kds L c (nxT L.length (fun j => (ndA L j).count) a)
def kidsOf (L : List Nd) (i : Nat) : List Nat := kds L (ndA L i).count.toNat (i + 1)
/-- What is seen, and the first faults so far, or -1. -/
structure Ck where
  vars : List (ByteArray × Int)
  names : Int
  types : Int
def fstI (now : Int) (i : Nat) : Int := if now < 0 ∨ (i : Int) < now then i else now
def Ck.badN (c : Ck) (i : Nat) : Ck := { c with names := fstI c.names i }
def Ck.badT (c : Ck) (i : Nat) : Ck := { c with types := fstI c.types i }
/-- The first defined word with a name, or -1. -/
def macL (L : List Nd) (nm : ByteArray) : List Nat → Int
  | [] => -1
  | k :: r => if (ndA L k).kind = 1 ∧ (ndA L k).names.getD 0 .empty = nm then (k : Int) else macL L nm r
def macA (L : List Nd) (nm : ByteArray) : Int := macL L nm (kidsOf L 0)
/-- The type of the last variable with a name. -/
def vrT : List (ByteArray × Int) → ByteArray → Option Int
  | [], _ => none
  | v :: r, nm => match vrT r nm with
    | some t => some t
    | none => if v.1 = nm then some v.2 else none
/-- The type of an expression with a sign. -/
def tyB (k op a b : Int) : Option Int :=
  if k = 21 ∨ (k = 20 ∧ op ≤ 1) then (if a ≠ 2 ∨ b ≠ 2 then none else some 2)
  else if k = 20 ∧ op ≤ 3 then (if a ≠ b then none else some 2)
  else if k = 20 ∧ op = 8 then (if a = 2 ∨ b = 2 then none else some 1)
  else if a ≠ 0 ∨ b ≠ 0 then none
  else if k = 20 ∧ op ≤ 7 then some 2 else some 0
def tyO (L : List Nd) : Nat → Ck → Nat → Int × Ck
  | 0, c, _ => (3, c)
  | f + 1, c, i =>
    if (ndA L i).kind = 16 then (0, c)
    else if (ndA L i).kind = 17 then (1, c)
    else if (ndA L i).kind = 18 then (2, c)
    else if (ndA L i).kind = 19 then (match vrT c.vars ((ndA L i).names.getD 0 .empty) with
      | none => (3, c.badN i)
      | some t => (t, c))
    else
      let a := tyO L f c ((kidsOf L i).getD 0 0)
      let b := if (ndA L i).kind = 20 then tyO L f a.2 ((kidsOf L i).getD 1 0) else a
      if a.1 = 3 ∨ b.1 = 3 then (3, b.2) else match tyB (ndA L i).kind (ndA L i).n a.1 b.1 with
      | none => (3, b.2.badT i)
      | some t => (t, b.2)
/-- The types of the expressions among some nodes. -/
def tyAll (L : List Nd) (f : Nat) : List Nat → Ck → List Int → List Int × Ck
  | [], c, ts => (ts, c)
  | k :: r, c, ts => if 16 ≤ (ndA L k).kind ∧ (ndA L k).kind ≤ 22 then tyAll L f r (tyO L f c k).2 (ts ++ [(tyO L f c k).1]) else tyAll L f r c ts
/-- The types that a statement takes; none where it calls what is not there. -/
def takesT (L : List Nd) (i count : Nat) : Option (List Int) :=
  if (ndA L i).kind = 4 then (if macA L ((ndA L i).names.getD 0 .empty) < 0 then none else some (ndA L (macA L ((ndA L i).names.getD 0 .empty)).toNat).types)
  else some (if (ndA L i).kind = 6 then (List.replicate count (0 : Int)).set 0 2 else if (ndA L i).kind = 14 ∨ (ndA L i).kind = 15 then (List.replicate count (0 : Int)).set 0 1 else List.replicate count 0)
def ckAll (st : Ck → Nat → Ck) : List Nat → Ck → Ck
  | [], c => c
  | k :: r, c => ckAll st r (st c k)
/-- A block: what it binds is forgotten behind it. -/
def ckB (L : List Nd) (st : Ck → Nat → Ck) (c : Ck) (i : Nat) : Ck := { ckAll st (kidsOf L i) c with vars := c.vars }
def ckT (L : List Nd) (c : Ck) (i : Nat) (ts : List Int) : Ck :=
  match takesT L i ts.length with
  | none => c.badN i
  | some w => if ts.contains 3 then c else if w = ts then c else c.badT i
/-- A statement. -/
def ckS (L : List Nd) : Nat → Ck → Nat → Ck
  | 0, c, _ => c
  | f + 1, c, i =>
    let r := tyAll L 61 (kidsOf L i) c []
    if (ndA L i).kind = 3 then { r.2 with vars := r.2.vars ++ [((ndA L i).names.getD 0 .empty, r.1.getD 0 0)] }
    else
      let c1 := ckT L r.2 i r.1
      if (ndA L i).kind = 5 then { ckB L (ckS L f) { c1 with vars := c1.vars ++ [((ndA L i).names.getD 0 .empty, 0)] } ((kidsOf L i).getD 2 0) with vars := c1.vars }
      else if (ndA L i).kind = 6 then
        (let c2 := ckB L (ckS L f) c1 ((kidsOf L i).getD 1 0)
        if (kidsOf L i).length = 3 ∧ (ndA L ((kidsOf L i).getD 2 0)).kind = 6 then ckS L f c2 ((kidsOf L i).getD 2 0)
        else if (kidsOf L i).length = 3 then ckB L (ckS L f) c2 ((kidsOf L i).getD 2 0) else c2)
      else c1
/-- A defined word's parameters. -/
def ckP (i : Nat) : List ByteArray → List Int → Ck → Ck
  | [], _, c => c
  | nm :: r, ts, c => ckP i r ts.tail { (if (vrT c.vars nm).isSome then c.badN i else c) with vars := c.vars ++ [(nm, ts.headD 0)] }
def ckM (L : List Nd) (c : Ck) (i : Nat) : Ck :=
  let c1 := if macA L ((ndA L i).names.getD 0 .empty) ≠ (i : Int) then c.badN i else c
  { ckB L (ckS L 61) (ckP i (ndA L i).names.tail (ndA L i).types { c1 with vars := [] }) ((kidsOf L i).getD 0 0) with vars := c.vars }
def ckTop (L : List Nd) (c : Ck) (k : Nat) : Ck := if (ndA L k).kind = 1 then ckM L c k else ckS L 61 c k
/-- The code and the node that Check answers of a valid tree. -/
def ckF (L : List Nd) : Int × Int :=
  let c := ckAll (ckTop L) (kidsOf L 0) ⟨[], -1, -1⟩
  if 0 ≤ c.names then (5, c.names) else if 0 ≤ c.types then (6, c.types) else (0, 0)
end Go.Proofs.YtdlahabeegmjiaaDoor

namespace Go.Proofs.YtdlahabeegmjiaaDoor
open Go.RowKit

set_option maxHeartbeats 400000 in
theorem toB_any (a0 : Option Addr) (b off cap : Nat) (s : ByteArray) (w : World) (hs : s.size ≤ 1048576) (ha : 0 < s.size → a0 = some ⟨b, off, none⟩)
    (hc : ∀ j, j < s.size → w.cell? ⟨b, off + j, none⟩ = some (bts s j)) :
    Calls Tryd.prog 34 #[.slice a0 s.size cap] w fun e w' => e = .returned (.slice (some ⟨w.heap.size, 0, none⟩) s.size s.size) ∧ w'.rowIs w.heap.size 5 s.size (bts s) ∧ Below w.heap.size w w' ∧ w'.heap.size = w.heap.size + 1 := by
  have hmk := run_make_row' (P := Tryd.prog) 31 5 (.int .u8 0) 1 Tryd.underlying31 Tryd.info5 rfl .i64 .i64 s.size (by omega) (by omega)
  go_enter Tryd.func34, Tryd.ntmps34
  go_wp2
  clear hmk
  go_loopw [4] (fun i wr => ∃ k : Nat, k ≤ s.size ∧ i = .int .i64 k ∧ wr.rowIs w.heap.size 5 s.size (fun j => if j < k then bts s j else .int .u8 0) ∧ Below w.heap.size w wr ∧ wr.heap.size = w.heap.size + 1) (fun i _ => s.size - (intOf i).toNat)
  case atStart => exact ⟨0, Nat.zero_le _, rfl, (World.rowIs_made w _ s.size 5).congr (fun j _ => by simp), (Below.refl _ _).alloc (Nat.le_refl _) _, by simp⟩
  case round =>
    obtain ⟨k, hk, rfl, hrow, hbl, hsz⟩ := hrel
    by_cases hlt : k < s.size
    · obtain rfl := ha (by omega)
      have hb : b < w.heap.size := World.block_lt_of_cell? _ _ (hc k hlt)
      have hcb : bts s k = .int .u8 ((s.get! k).toNat : Int) := rfl
      have hbd : ((s.get! k).toNat : Int) < 256 := by have := (s.get! k).toNat_lt; omega
      have g0 : wr.cell? ⟨b, off + k, none⟩ = some (.int .u8 ((s.get! k).toNat : Int)) := by rw [hbl.cell (p := ⟨b, off + k, none⟩) hb]; exact hc k hlt
      have g1 : wr.cell? ⟨w.heap.size, k, none⟩ = some (.int .u8 0) := by rw [hrow.cell hlt]; simp
      have g2 : wr.frozen? ⟨w.heap.size, k, none⟩ = false := hrow.frozen k
      clear hcb
      go_wp2
      go_roundw
      case rel => exact ⟨k + 1, by omega, by go_num, (hrow.set k _).congr (fun j _ => by
          by_cases e : j = k
          · subst e; simp [bts]
          · rw [if_neg e]; by_cases hj : j < k
            · rw [if_pos hj, if_pos (by omega)]
            · rw [if_neg hj, if_neg (by omega)]), hbl.setCell (Nat.le_refl _) _, by simp [hsz]⟩
      case measure => simp [intOf]; omega
    · go_wp2
      go_ret
      exact ⟨rfl, hrow.congr (fun j hj => by rw [if_pos (by omega)]), hbl, hsz⟩

set_option maxHeartbeats 400000 in
theorem eqB_any (a1 a2 : Option Addr) (b1 o1 c1 b2 o2 c2 : Nat) (s t : ByteArray) (w : World) (hs : s.size ≤ 1048576) (_ht : t.size ≤ 1048576) (h1 : 0 < s.size → a1 = some ⟨b1, o1, none⟩) (h2 : 0 < t.size → a2 = some ⟨b2, o2, none⟩)
    (hc1 : ∀ j, j < s.size → w.cell? ⟨b1, o1 + j, none⟩ = some (bts s j)) (hc2 : ∀ j, j < t.size → w.cell? ⟨b2, o2 + j, none⟩ = some (bts t j)) :
    Calls Tryd.prog 41 #[.slice a1 s.size c1, .slice a2 t.size c2] w fun e w' => e = .returned (.bool (decide (s = t))) ∧ ∃ n, w' = w.drewN n := by
  by_cases hst : s.size = t.size
  · have hne : ((s.size : Int) != (t.size : Int)) = false := by rw [bne_eq_false_iff_eq]; omega
    have HST : Hid (s.size = t.size) := hst
    have hle : s.size ≤ t.size := by omega
    have hge : t.size ≤ s.size := by omega
    clear hst
    go_enter Tryd.func41, Tryd.ntmps41
    go_wp2
    go_loopw [5] (fun i wr => ∃ k n : Nat, k ≤ s.size ∧ i = .int .i64 k ∧ wr = w.drewN n ∧ ∀ j, j < k → s.get! j = t.get! j) (fun i _ => s.size - (intOf i).toNat)
    case atStart => exact ⟨0, 0, Nat.zero_le _, rfl, rfl, fun j hj => absurd hj (Nat.not_lt_zero _)⟩
    case round =>
      obtain ⟨k, n, hk, rfl, rfl, heq⟩ := hrel
      by_cases hlt : k < s.size
      · obtain rfl := h1 (by omega)
        obtain rfl := h2 (by omega)
        have HEQ : Hid (∀ j, j < k → s.get! j = t.get! j) := heq
        have g1 : w.cell? ⟨b1, o1 + k, none⟩ = some (.int .u8 ((s.get! k).toNat : Int)) := hc1 k hlt
        have g2 : w.cell? ⟨b2, o2 + k, none⟩ = some (.int .u8 ((t.get! k).toNat : Int)) := hc2 k (by omega)
        have hlt2 : k < t.size := by omega
        clear hc1 hc2 heq h1 h2
        by_cases hkk : s.get! k = t.get! k
        · have hbb : (((s.get! k).toNat : Int) != ((t.get! k).toNat : Int)) = false := by rw [hkk]; simp
          have HKK : Hid (s.get! k = t.get! k) := hkk
          clear hkk
          go_wp2
          go_region
          all_goals go_wp2
          all_goals
            go_roundw
            case rel => exact ⟨k + 1, _, by omega, by go_num, rfl, fun j hj => by
              by_cases e : j = k
              · rw [e]; exact HKK.out
              · exact HEQ.out j (by omega)⟩
            case measure => simp [intOf]; omega
        · have hbb : (((s.get! k).toNat : Int) != ((t.get! k).toNat : Int)) = true := by
            rw [bne_iff_ne]; intro e; exact hkk (UInt8.toNat_inj.1 (by omega))
          have HKK : Hid (¬ s.get! k = t.get! k) := hkk
          clear hkk
          go_wp2
          go_region
          all_goals go_wp2
          all_goals go_ret
          all_goals exact ⟨ret_bool (by symm; rw [decide_eq_false_iff_not]; intro e; exact HKK.out (by rw [e])), _, rfl⟩
      · go_wp2
        go_ret
        exact ⟨ret_bool (by symm; rw [decide_eq_true_iff]; exact ext_bytes HST.out (fun j hj => heq j (by omega))), n, rfl⟩
  · have hne : ((s.size : Int) != (t.size : Int)) = true := by rw [bne_iff_ne]; omega
    have HST : Hid (¬ s.size = t.size) := hst
    clear hst
    go_enter Tryd.func41, Tryd.ntmps41
    go_wp2
    go_ret
    exact ⟨ret_bool (by symm; rw [decide_eq_false_iff_not]; intro e; exact HST.out (by rw [e])), 0, rfl⟩

end Go.Proofs.YtdlahabeegmjiaaDoor

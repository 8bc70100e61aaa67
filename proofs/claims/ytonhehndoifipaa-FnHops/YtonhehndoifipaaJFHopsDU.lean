/-
  The walk of spec.DrawUnpackHops.
-/
import Derived.Test.YtonhehndoifipaaJFHopsDH
import Derived.Test.YtonhehndoifipaaJFHopsSPH
import Derived.BigQuiet
import Derived.Deep.QuietTactic
import Derived.Laws.BitsAllLaws
import Derived.Deep.RegionHeld3
namespace Go.Proofs.Ytonhehndoifipaa
open Go.RowKit

/-- What is drawn behind the first two. -/
def duC (cs : ByteArray) (n : Nat) : ByteArray := cs.extract (min 2 n) n
theorem duC_size {cs : ByteArray} {n : Nat} (h : n ≤ cs.size) : (duC cs n).size = n - min 2 n := by
  unfold duC
  rw [ByteArray.size_extract]
  omega
theorem duC_at {cs : ByteArray} {n j : Nat} (h : n ≤ cs.size) (hj : j < n - min 2 n) : bts (duC cs n) j = bts cs (min 2 n + j) := by
  unfold bts
  rw [Utf8W.get!_of_lt _ j (by rw [duC_size h]; exact hj), Utf8W.get!_of_lt _ _ (by omega)]
  have e : (duC cs n)[j]'(by rw [duC_size h]; exact hj) = cs[min 2 n + j]'(by omega) := ByteArray.getElem_extract _
  rw [e]
theorem set_size (b : ByteArray) (i : Nat) (x : UInt8) : (b.set! i x).size = b.size := by
  show (b.data.set! i x).size = b.data.size
  simp
theorem set_bts {b : ByteArray} {j i y : Nat} (hj : j < b.size) (hi : i < b.size) (hy : y < 256) : bts (b.set! j (UInt8.ofNat y)) i = if i = j then .int .u8 (y : Nat) else bts b i := by
  unfold bts
  rw [Utf8W.get!_of_lt _ i (by rw [set_size]; exact hi), Utf8W.get!_of_lt _ i hi]
  have e : (b.set! j (UInt8.ofNat y))[i]'(by rw [set_size]; exact hi) = if i = j then UInt8.ofNat y else b[i]'hi := by
    show (b.data.set! j (UInt8.ofNat y))[i]'_ = if i = j then _ else b.data[i]'_
    have hj' : j < b.data.size := hj
    by_cases h : i = j
    · subst h
      rw [if_pos rfl]
      simp
    · rw [if_neg h]
      have h' : ¬ j = i := fun e => h e.symm
      have hi' : i < b.data.size := hi
      have h1 : (b.data.set! j (UInt8.ofNat y))[i]? = b.data[i]? := by simp [h']
      rw [Array.getElem?_eq_getElem (by simpa using hi'), Array.getElem?_eq_getElem hi'] at h1
      exact Option.some.inj h1
  rw [e]
  split
  · rw [UInt8.toNat_ofNat_of_lt' (by exact hy)]
  · rfl
/-- The bytes that are drawn: those of hops, one bit of them may be changed. -/
def duX (b : ByteArray) (k v : Nat) : ByteArray := if k % 8 = 0 ∧ 0 < b.size then b.set! (v % b.size) (UInt8.ofNat ((b.get! (v % b.size)).toNat ^^^ 2 ^ (k / 8 % 8))) else b
def duB (cs : ByteArray) (n : Nat) : ByteArray := duX (pkF (dh (duC cs n))) (nx cs n 0) (nx cs n 1)
/-- The number that is drawn beside them. -/
def duN (cs : ByteArray) (n : Nat) : Int :=
  if nx cs n 0 = 10 then 9223372036854775807
  else if nx cs n 0 = 2 then -1
  else if nx cs n 0 % 8 = 1 then ((dh (duC cs n)).length : Int) + (((nx cs n 1 % 5 : Nat) : Int) - 2) else (dh (duC cs n)).length

set_option maxHeartbeats 2000000 in
set_option maxRecDepth 1000000 in
theorem drawUnpack_any (w : World) (a0 : Option Addr) (b off cap : Nat) (cs : ByteArray) (hs : cs.size ≤ 1048576) (hcap : cs.size ≤ cap) (ha : 0 < cs.size → a0 = some ⟨b, off, none⟩) (hc : ∀ j, j < cs.size → w.cell? ⟨b, off + j, none⟩ = some (bts cs j)) :
    Calls Try.prog 27 #[.slice a0 cs.size cap] w fun e w' => ∃ v, e = .returned (.tuple #[v, .int .i64 (duN cs (min cs.size 600))]) ∧ BNw w w' v (duB cs (min cs.size 600)) ∧ Below w.heap.size w w' := by
  have HOP := hide (open_any w a0 b off cap cs hs hcap ha hc)
  have HBC : Hid (0 < cs.size → b < w.heap.size) := fun h => World.block_lt_of_cell? _ _ (hc 0 h)
  clear ha hc
  go_enter Try.func27, Try.ntmps27
  go_wp2_with fail
  refine HOP.out.mono ?_
  rintro e w1 ⟨n, hn, rfl, hr1, hb1⟩
  have hn6 : n ≤ 600 := by omega
  have HN1 := hide (next_any w1 w.heap.size a0 b off n cap cs 0 hn6 hr1)
  have HB1 := hide hb1
  have HBW : Hid (0 < n → b < w.heap.size) := fun h => HBC.out (by have := hr1.le; omega)
  have HDB : Hid (duB cs (min cs.size 600) = duX (pkF (dh (duC cs n))) (nx cs n 0) (nx cs n 1)) := by show _ = _; rw [← hn]; rfl
  have HDN : Hid (duN cs (min cs.size 600) = if nx cs n 0 = 10 then 9223372036854775807 else if nx cs n 0 = 2 then -1 else if nx cs n 0 % 8 = 1 then ((dh (duC cs n)).length : Int) + (((nx cs n 1 % 5 : Nat) : Int) - 2) else (dh (duC cs n)).length) := by show _ = _; rw [← hn]; rfl
  obtain ⟨R, hR⟩ : ∃ R, w.heap.size = R := ⟨_, rfl⟩
  have hRw : w.heap.size ≤ R := by omega
  rw [hR] at HN1 ⊢
  have HRR := hide hR
  clear hn hr1 hb1 hR HOP
  go_wp2_with fail
  refine HN1.out.mono ?_
  rintro e w2 ⟨rfl, hg2, hr2⟩
  have HB2 : Hid (Below w.heap.size w w2) := HB1.out.grown hg2 HB1.out.size (fun k hk => by cases hk; exact hRw)
  have HN2 := hide (next_any w2 R a0 b off n cap cs (0 + 1) hn6 hr2)
  have hk := nx_lt cs n 0
  have hv := nx_lt cs n 1
  obtain ⟨k, hk'⟩ : ∃ k, nx cs n 0 = k := ⟨_, rfl⟩
  obtain ⟨v, hv'⟩ : ∃ v, nx cs n 1 = v := ⟨_, rfl⟩
  rw [hk'] at hk HDB HDN ⊢
  rw [hv'] at hv HDB HDN
  simp only [Nat.zero_add, hv'] at HN2
  clear hg2 hr2 hk' hv' HN1 HB1
  go_wp2_with fail
  refine HN2.out.mono ?_
  rintro e w3 ⟨rfl, hg3, hr3⟩
  have HB3 : Hid (Below w.heap.size w w3) := HB2.out.grown hg3 HB2.out.size (fun k hk => by cases hk; exact hRw)
  have HR3 := hide hr3
  have c0 : w3.cell? ⟨R, 0, none⟩ = some (.slice a0 n cap) := by simp [World.cell?, hr3.blk]
  have c1 : w3.cell? ⟨R, 1, none⟩ = some (.int .i64 ((min 2 n : Nat) : Int)) := by
    have := hr3.blk
    simp [World.cell?, this]
  have hle := hr3.le
  have had := hr3.addr
  have HBY := hide hr3.bytes
  obtain ⟨p, hp⟩ : ∃ p, min 2 n = p := ⟨_, rfl⟩
  have hpn : p ≤ n := by omega
  have hpi : (p : Int) ≤ (n : Int) := by omega
  have hnc : (n : Int) ≤ (cap : Int) := by omega
  have hncn : n ≤ cap := by omega
  rw [hp] at c1
  have HP := hide hp
  clear hg3 hr3 hp HN2 HB2
  have hmx : Try.prog.follows .mixedOrders = true := by kernel_rfl
  have HDP : Hid (∀ (a' : Option Addr) (cap' : Nat), n - p ≤ cap' → (0 < n - p → a' = some ⟨b, off + p, none⟩) → Calls Try.prog 25 #[.slice a' (n - p) cap'] w3.drew fun e w' => ∃ v, e = .returned v ∧ w'.ownsRow (w3.drew.heap.size + 1) 3 1 v (dh (duC cs n)).length (ci (dh (duC cs n))) ∧ Below w3.drew.heap.size w3.drew w') := fun a' cap' h1 h2 => by
    have hz : (duC cs n).size = n - p := by rw [duC_size hle, HP.out]
    have := drawPack_any w3.drew a' b (off + p) cap' (duC cs n) (by omega) (by omega) (by rw [hz]; exact h2) (fun j hj => by
      rw [hz] at hj
      rw [duC_at hle (by rw [HP.out]; exact hj), HP.out, Nat.add_assoc]
      exact HBY.out (p + j) (by omega))
    rw [hz] at this
    exact this
  obtain ⟨L, hL⟩ : ∃ L, dh (duC cs n) = L := ⟨_, rfl⟩
  have hLl : L.length ≤ 41 := by rw [← hL]; exact dhN_len _ _
  simp only [hL] at HDP HDB HDN
  clear hL
  have HFIN : Hid (∀ w4 u4, Below w3.heap.size w3 w4 → w4.ownsRow (w3.drew.heap.size + 1) 3 1 u4 L.length (ci L) → True) := fun _ _ _ _ => trivial
  clear HFIN
  refine Or.elim (Nat.lt_or_ge 0 n) (fun h0 => ?posn) (fun h0 => ?zn)
  case' posn =>
    obtain rfl := had h0
    refine Or.elim (Classical.em (cap = p)) (fun hcp => ?ceq) (fun hcp => ?cne)
    case' ceq =>
      have HDA := hide (HDP.out (some ⟨b, off, none⟩) 0 (by omega) (fun h => by omega))
      have e0 : n - p = 0 := by omega
      rw [e0] at HDA
      obtain rfl : n = p := by omega
      subst hcp
      clear HDP had e0
      go_wp2_with fail
      refine wp_region_held_drew (S := fun w' => Hid (Below w3.heap.size w3 w')) (by kernel_rfl) ((Below.refl _ _).drew) (fun hHeld => ?_)
      refine wpAnyH_take (i := 0) (oi := { dst := some 17, op := Op.move (Operand.tmp 4), type := 57, pos := "l9_draw.go:844", after := #[], guard := none }) (v := .pointer (some ⟨R, 0, none⟩)) rfl (by kernel_rfl) (by kernel_rfl) (by kernel_rfl) (fun _ _ _ h => h) (Or.inl ⟨by rfl, ?_⟩) hHeld ?_
      · intro W hSW
        clear hHeld hSW
        go_simp
      try simp only [Act.put, List.setIfInBounds_toArray, List.set_cons_zero, List.set_cons_succ]
      refine wpAnyH_take (i := 1) (oi := { dst := some 18, op := Op.nilCheck (Operand.tmp 17), type := 0, pos := "l9_draw.go:844", after := #[{ on := 0, ground := Ground.data }], guard := none }) (v := .pointer (some ⟨R, 0, none⟩)) rfl (by kernel_rfl) (by kernel_rfl) (by kernel_rfl) (fun _ _ _ h => h) (Or.inl ⟨by rfl, ?_⟩) hHeld ?_
      · intro W hSW
        clear hHeld hSW
        go_simp
      try simp only [Act.put, List.setIfInBounds_toArray, List.set_cons_zero, List.set_cons_succ]
      refine wpAnyH_take (i := 2) (oi := { dst := some 19, op := Op.fieldAddr 61 (Operand.tmp 18) 0, type := 0, pos := "l9_draw.go:844", after := #[{ on := 1, ground := Ground.data }], guard := none }) (v := .pointer (some ⟨R, 0, none⟩)) rfl (by kernel_rfl) (by kernel_rfl) (by kernel_rfl) (fun _ _ _ h => h) (Or.inl ⟨by rfl, ?_⟩) hHeld ?_
      · intro W hSW
        clear hHeld hSW
        go_simp
      try simp only [Act.put, List.setIfInBounds_toArray, List.set_cons_zero, List.set_cons_succ]
      refine wpAnyH_take (i := 3) (oi := { dst := some 20, op := Op.load 22 (Operand.tmp 19), type := 22, pos := "l9_draw.go:844", after := #[{ on := 2, ground := Ground.data }], guard := none }) (v := .slice (some ⟨b, off, none⟩) cap cap) rfl (by kernel_rfl) (by kernel_rfl) (by kernel_rfl) (fun _ _ _ h => h) (Or.inl ⟨by rfl, ?_⟩) hHeld ?_
      · intro W hSW
        have k0 := cell_kept c0 hSW.out
        have k1 := cell_kept c1 hSW.out
        clear hHeld hSW
        go_simp
      try simp only [Act.put, List.setIfInBounds_toArray, List.set_cons_zero, List.set_cons_succ]
      refine wpAnyH_take (i := 4) (oi := { dst := some 21, op := Op.move (Operand.tmp 4), type := 57, pos := "l9_draw.go:844", after := #[], guard := none }) (v := .pointer (some ⟨R, 0, none⟩)) rfl (by kernel_rfl) (by kernel_rfl) (by kernel_rfl) (fun _ _ _ h => h) (Or.inl ⟨by rfl, ?_⟩) hHeld ?_
      · intro W hSW
        clear hHeld hSW
        go_simp
      try simp only [Act.put, List.setIfInBounds_toArray, List.set_cons_zero, List.set_cons_succ]
      refine wpAnyH_take (i := 5) (oi := { dst := some 22, op := Op.nilCheck (Operand.tmp 21), type := 0, pos := "l9_draw.go:844", after := #[{ on := 4, ground := Ground.data }], guard := none }) (v := .pointer (some ⟨R, 0, none⟩)) rfl (by kernel_rfl) (by kernel_rfl) (by kernel_rfl) (fun _ _ _ h => h) (Or.inl ⟨by rfl, ?_⟩) hHeld ?_
      · intro W hSW
        clear hHeld hSW
        go_simp
      try simp only [Act.put, List.setIfInBounds_toArray, List.set_cons_zero, List.set_cons_succ]
      refine wpAnyH_take (i := 6) (oi := { dst := some 23, op := Op.fieldAddr 61 (Operand.tmp 22) 1, type := 0, pos := "l9_draw.go:844", after := #[{ on := 5, ground := Ground.data }], guard := none }) (v := .pointer (some ⟨R, 1, none⟩)) rfl (by kernel_rfl) (by kernel_rfl) (by kernel_rfl) (fun _ _ _ h => h) (Or.inl ⟨by rfl, ?_⟩) hHeld ?_
      · intro W hSW
        clear hHeld hSW
        go_simp
      try simp only [Act.put, List.setIfInBounds_toArray, List.set_cons_zero, List.set_cons_succ]
      refine wpAnyH_take (i := 7) (oi := { dst := some 24, op := Op.load 3 (Operand.tmp 23), type := 3, pos := "l9_draw.go:844", after := #[{ on := 6, ground := Ground.data }], guard := none }) (v := .int .i64 (cap : Nat)) rfl (by kernel_rfl) (by kernel_rfl) (by kernel_rfl) (fun _ _ _ h => h) (Or.inl ⟨by rfl, ?_⟩) hHeld ?_
      · intro W hSW
        have k0 := cell_kept c0 hSW.out
        have k1 := cell_kept c1 hSW.out
        clear hHeld hSW
        go_simp
      try simp only [Act.put, List.setIfInBounds_toArray, List.set_cons_zero, List.set_cons_succ]
      refine wpAnyH_take (i := 8) (oi := { dst := some 25, op := Op.slice 22 (Operand.tmp 20) (some (Operand.tmp 24)) none none, type := 22, pos := "l9_draw.go:844", after := #[{ on := 3, ground := Ground.data }, { on := 7, ground := Ground.data }], guard := none }) (v := .slice (some ⟨b, off, none⟩) 0 0) rfl (by kernel_rfl) (by kernel_rfl) (by kernel_rfl) (fun _ _ _ h => h) (Or.inl ⟨by rfl, ?_⟩) hHeld ?_
      · intro W hSW
        clear hHeld hSW
        go_simp
      try simp only [Act.put, List.setIfInBounds_toArray, List.set_cons_zero, List.set_cons_succ]
      refine wpAnyH_ready (rs := [9]) (by kernel_rfl) (by simp) ?_
      refine AllReadyH.cons (o := { dst := some 26, op := Op.call { callee := Callee.value (Operand.func 25), args := #[Operand.tmp 25], argTypes := #[22] }, type := 31, pos := "l9_draw.go:844", after := #[{ on := 8, ground := Ground.data }], guard := none }) rfl (fun K hK => ?_) AllReadyH.nil
      go_simp
      refine HDA.out.mono ?_
      rintro e w4 ⟨u4, rfl, ho4, hb4⟩
      have HO4 := hide ho4
      have HB4' : Hid (Below w3.heap.size w3 w4) := (Below.refl _ _).drew.trans hb4
      clear ho4 hb4
      go_wp2_with fail
      refine hK.out _ _ HB4'.out (fun hHeld => ?_)
      clear hK K
      try simp only [Act.put, List.setIfInBounds_toArray, List.set_cons_zero, List.set_cons_succ]
      refine wpAnyH_take (i := 10) (oi := { dst := some 7, op := Op.assign (Operand.tmp 26), type := 31, pos := "l9_draw.go:844", after := #[{ on := 9, ground := Ground.data }, { on := 9, ground := Ground.chain }, { on := 0, ground := Ground.phase }, { on := 1, ground := Ground.phase }, { on := 2, ground := Ground.phase }, { on := 3, ground := Ground.phase }, { on := 4, ground := Ground.phase }, { on := 5, ground := Ground.phase }, { on := 6, ground := Ground.phase }, { on := 7, ground := Ground.phase }, { on := 8, ground := Ground.phase }, { on := 9, ground := Ground.phase }], guard := none }) (v := u4) rfl (by kernel_rfl) (by kernel_rfl) (by kernel_rfl) (fun _ _ _ h => h) (Or.inl ⟨by rfl, ?_⟩) hHeld ?_
      · intro W hSW
        clear hHeld hSW
        go_simp
      try simp only [Act.put, List.setIfInBounds_toArray, List.set_cons_zero, List.set_cons_succ]
      refine wpAnyH_done (by kernel_rfl) ?_ _
    case' cne =>
      have HDA := hide (HDP.out (some ⟨b, off + p, none⟩) (cap - p) (by omega) (fun _ => rfl))
      clear HDP had
      go_wp2_with fail
      refine wp_region_held_drew (S := fun w' => Hid (Below w3.heap.size w3 w')) (by kernel_rfl) ((Below.refl _ _).drew) (fun hHeld => ?_)
      refine wpAnyH_take (i := 0) (oi := { dst := some 17, op := Op.move (Operand.tmp 4), type := 57, pos := "l9_draw.go:844", after := #[], guard := none }) (v := .pointer (some ⟨R, 0, none⟩)) rfl (by kernel_rfl) (by kernel_rfl) (by kernel_rfl) (fun _ _ _ h => h) (Or.inl ⟨by rfl, ?_⟩) hHeld ?_
      · intro W hSW
        clear hHeld hSW
        go_simp
      try simp only [Act.put, List.setIfInBounds_toArray, List.set_cons_zero, List.set_cons_succ]
      refine wpAnyH_take (i := 1) (oi := { dst := some 18, op := Op.nilCheck (Operand.tmp 17), type := 0, pos := "l9_draw.go:844", after := #[{ on := 0, ground := Ground.data }], guard := none }) (v := .pointer (some ⟨R, 0, none⟩)) rfl (by kernel_rfl) (by kernel_rfl) (by kernel_rfl) (fun _ _ _ h => h) (Or.inl ⟨by rfl, ?_⟩) hHeld ?_
      · intro W hSW
        clear hHeld hSW
        go_simp
      try simp only [Act.put, List.setIfInBounds_toArray, List.set_cons_zero, List.set_cons_succ]
      refine wpAnyH_take (i := 2) (oi := { dst := some 19, op := Op.fieldAddr 61 (Operand.tmp 18) 0, type := 0, pos := "l9_draw.go:844", after := #[{ on := 1, ground := Ground.data }], guard := none }) (v := .pointer (some ⟨R, 0, none⟩)) rfl (by kernel_rfl) (by kernel_rfl) (by kernel_rfl) (fun _ _ _ h => h) (Or.inl ⟨by rfl, ?_⟩) hHeld ?_
      · intro W hSW
        clear hHeld hSW
        go_simp
      try simp only [Act.put, List.setIfInBounds_toArray, List.set_cons_zero, List.set_cons_succ]
      refine wpAnyH_take (i := 3) (oi := { dst := some 20, op := Op.load 22 (Operand.tmp 19), type := 22, pos := "l9_draw.go:844", after := #[{ on := 2, ground := Ground.data }], guard := none }) (v := .slice (some ⟨b, off, none⟩) n cap) rfl (by kernel_rfl) (by kernel_rfl) (by kernel_rfl) (fun _ _ _ h => h) (Or.inl ⟨by rfl, ?_⟩) hHeld ?_
      · intro W hSW
        have k0 := cell_kept c0 hSW.out
        have k1 := cell_kept c1 hSW.out
        clear hHeld hSW
        go_simp
      try simp only [Act.put, List.setIfInBounds_toArray, List.set_cons_zero, List.set_cons_succ]
      refine wpAnyH_take (i := 4) (oi := { dst := some 21, op := Op.move (Operand.tmp 4), type := 57, pos := "l9_draw.go:844", after := #[], guard := none }) (v := .pointer (some ⟨R, 0, none⟩)) rfl (by kernel_rfl) (by kernel_rfl) (by kernel_rfl) (fun _ _ _ h => h) (Or.inl ⟨by rfl, ?_⟩) hHeld ?_
      · intro W hSW
        clear hHeld hSW
        go_simp
      try simp only [Act.put, List.setIfInBounds_toArray, List.set_cons_zero, List.set_cons_succ]
      refine wpAnyH_take (i := 5) (oi := { dst := some 22, op := Op.nilCheck (Operand.tmp 21), type := 0, pos := "l9_draw.go:844", after := #[{ on := 4, ground := Ground.data }], guard := none }) (v := .pointer (some ⟨R, 0, none⟩)) rfl (by kernel_rfl) (by kernel_rfl) (by kernel_rfl) (fun _ _ _ h => h) (Or.inl ⟨by rfl, ?_⟩) hHeld ?_
      · intro W hSW
        clear hHeld hSW
        go_simp
      try simp only [Act.put, List.setIfInBounds_toArray, List.set_cons_zero, List.set_cons_succ]
      refine wpAnyH_take (i := 6) (oi := { dst := some 23, op := Op.fieldAddr 61 (Operand.tmp 22) 1, type := 0, pos := "l9_draw.go:844", after := #[{ on := 5, ground := Ground.data }], guard := none }) (v := .pointer (some ⟨R, 1, none⟩)) rfl (by kernel_rfl) (by kernel_rfl) (by kernel_rfl) (fun _ _ _ h => h) (Or.inl ⟨by rfl, ?_⟩) hHeld ?_
      · intro W hSW
        clear hHeld hSW
        go_simp
      try simp only [Act.put, List.setIfInBounds_toArray, List.set_cons_zero, List.set_cons_succ]
      refine wpAnyH_take (i := 7) (oi := { dst := some 24, op := Op.load 3 (Operand.tmp 23), type := 3, pos := "l9_draw.go:844", after := #[{ on := 6, ground := Ground.data }], guard := none }) (v := .int .i64 (p : Nat)) rfl (by kernel_rfl) (by kernel_rfl) (by kernel_rfl) (fun _ _ _ h => h) (Or.inl ⟨by rfl, ?_⟩) hHeld ?_
      · intro W hSW
        have k0 := cell_kept c0 hSW.out
        have k1 := cell_kept c1 hSW.out
        clear hHeld hSW
        go_simp
      try simp only [Act.put, List.setIfInBounds_toArray, List.set_cons_zero, List.set_cons_succ]
      refine wpAnyH_take (i := 8) (oi := { dst := some 25, op := Op.slice 22 (Operand.tmp 20) (some (Operand.tmp 24)) none none, type := 22, pos := "l9_draw.go:844", after := #[{ on := 3, ground := Ground.data }, { on := 7, ground := Ground.data }], guard := none }) (v := .slice (some ⟨b, off + p, none⟩) (n - p) (cap - p)) rfl (by kernel_rfl) (by kernel_rfl) (by kernel_rfl) (fun _ _ _ h => h) (Or.inl ⟨by rfl, ?_⟩) hHeld ?_
      · intro W hSW
        clear hHeld hSW
        go_simp
      try simp only [Act.put, List.setIfInBounds_toArray, List.set_cons_zero, List.set_cons_succ]
      refine wpAnyH_ready (rs := [9]) (by kernel_rfl) (by simp) ?_
      refine AllReadyH.cons (o := { dst := some 26, op := Op.call { callee := Callee.value (Operand.func 25), args := #[Operand.tmp 25], argTypes := #[22] }, type := 31, pos := "l9_draw.go:844", after := #[{ on := 8, ground := Ground.data }], guard := none }) rfl (fun K hK => ?_) AllReadyH.nil
      go_simp
      refine HDA.out.mono ?_
      rintro e w4 ⟨u4, rfl, ho4, hb4⟩
      have HO4 := hide ho4
      have HB4' : Hid (Below w3.heap.size w3 w4) := (Below.refl _ _).drew.trans hb4
      clear ho4 hb4
      go_wp2_with fail
      refine hK.out _ _ HB4'.out (fun hHeld => ?_)
      clear hK K
      try simp only [Act.put, List.setIfInBounds_toArray, List.set_cons_zero, List.set_cons_succ]
      refine wpAnyH_take (i := 10) (oi := { dst := some 7, op := Op.assign (Operand.tmp 26), type := 31, pos := "l9_draw.go:844", after := #[{ on := 9, ground := Ground.data }, { on := 9, ground := Ground.chain }, { on := 0, ground := Ground.phase }, { on := 1, ground := Ground.phase }, { on := 2, ground := Ground.phase }, { on := 3, ground := Ground.phase }, { on := 4, ground := Ground.phase }, { on := 5, ground := Ground.phase }, { on := 6, ground := Ground.phase }, { on := 7, ground := Ground.phase }, { on := 8, ground := Ground.phase }, { on := 9, ground := Ground.phase }], guard := none }) (v := u4) rfl (by kernel_rfl) (by kernel_rfl) (by kernel_rfl) (fun _ _ _ h => h) (Or.inl ⟨by rfl, ?_⟩) hHeld ?_
      · intro W hSW
        clear hHeld hSW
        go_simp
      try simp only [Act.put, List.setIfInBounds_toArray, List.set_cons_zero, List.set_cons_succ]
      refine wpAnyH_done (by kernel_rfl) ?_ _
  case' zn =>
    obtain rfl : n = 0 := by omega
    obtain rfl : p = 0 := by omega
    have HDA := hide (HDP.out a0 cap (by omega) (fun h => by omega))
    clear HDP had
    refine Or.elim (show a0 = none ∨ ∃ ad, a0 = some ad by cases a0 with | none => exact .inl rfl | some ad => exact .inr ⟨ad, rfl⟩) (fun hn => ?an) (fun hsm => ?asm)
    case' an =>
      subst hn
      go_wp2_with fail
      refine wp_region_held_drew (S := fun w' => Hid (Below w3.heap.size w3 w')) (by kernel_rfl) ((Below.refl _ _).drew) (fun hHeld => ?_)
      refine wpAnyH_take (i := 0) (oi := { dst := some 17, op := Op.move (Operand.tmp 4), type := 57, pos := "l9_draw.go:844", after := #[], guard := none }) (v := .pointer (some ⟨R, 0, none⟩)) rfl (by kernel_rfl) (by kernel_rfl) (by kernel_rfl) (fun _ _ _ h => h) (Or.inl ⟨by rfl, ?_⟩) hHeld ?_
      · intro W hSW
        clear hHeld hSW
        go_simp
      try simp only [Act.put, List.setIfInBounds_toArray, List.set_cons_zero, List.set_cons_succ]
      refine wpAnyH_take (i := 1) (oi := { dst := some 18, op := Op.nilCheck (Operand.tmp 17), type := 0, pos := "l9_draw.go:844", after := #[{ on := 0, ground := Ground.data }], guard := none }) (v := .pointer (some ⟨R, 0, none⟩)) rfl (by kernel_rfl) (by kernel_rfl) (by kernel_rfl) (fun _ _ _ h => h) (Or.inl ⟨by rfl, ?_⟩) hHeld ?_
      · intro W hSW
        clear hHeld hSW
        go_simp
      try simp only [Act.put, List.setIfInBounds_toArray, List.set_cons_zero, List.set_cons_succ]
      refine wpAnyH_take (i := 2) (oi := { dst := some 19, op := Op.fieldAddr 61 (Operand.tmp 18) 0, type := 0, pos := "l9_draw.go:844", after := #[{ on := 1, ground := Ground.data }], guard := none }) (v := .pointer (some ⟨R, 0, none⟩)) rfl (by kernel_rfl) (by kernel_rfl) (by kernel_rfl) (fun _ _ _ h => h) (Or.inl ⟨by rfl, ?_⟩) hHeld ?_
      · intro W hSW
        clear hHeld hSW
        go_simp
      try simp only [Act.put, List.setIfInBounds_toArray, List.set_cons_zero, List.set_cons_succ]
      refine wpAnyH_take (i := 3) (oi := { dst := some 20, op := Op.load 22 (Operand.tmp 19), type := 22, pos := "l9_draw.go:844", after := #[{ on := 2, ground := Ground.data }], guard := none }) (v := .slice none 0 cap) rfl (by kernel_rfl) (by kernel_rfl) (by kernel_rfl) (fun _ _ _ h => h) (Or.inl ⟨by rfl, ?_⟩) hHeld ?_
      · intro W hSW
        have k0 := cell_kept c0 hSW.out
        have k1 := cell_kept c1 hSW.out
        clear hHeld hSW
        go_simp
      try simp only [Act.put, List.setIfInBounds_toArray, List.set_cons_zero, List.set_cons_succ]
      refine wpAnyH_take (i := 4) (oi := { dst := some 21, op := Op.move (Operand.tmp 4), type := 57, pos := "l9_draw.go:844", after := #[], guard := none }) (v := .pointer (some ⟨R, 0, none⟩)) rfl (by kernel_rfl) (by kernel_rfl) (by kernel_rfl) (fun _ _ _ h => h) (Or.inl ⟨by rfl, ?_⟩) hHeld ?_
      · intro W hSW
        clear hHeld hSW
        go_simp
      try simp only [Act.put, List.setIfInBounds_toArray, List.set_cons_zero, List.set_cons_succ]
      refine wpAnyH_take (i := 5) (oi := { dst := some 22, op := Op.nilCheck (Operand.tmp 21), type := 0, pos := "l9_draw.go:844", after := #[{ on := 4, ground := Ground.data }], guard := none }) (v := .pointer (some ⟨R, 0, none⟩)) rfl (by kernel_rfl) (by kernel_rfl) (by kernel_rfl) (fun _ _ _ h => h) (Or.inl ⟨by rfl, ?_⟩) hHeld ?_
      · intro W hSW
        clear hHeld hSW
        go_simp
      try simp only [Act.put, List.setIfInBounds_toArray, List.set_cons_zero, List.set_cons_succ]
      refine wpAnyH_take (i := 6) (oi := { dst := some 23, op := Op.fieldAddr 61 (Operand.tmp 22) 1, type := 0, pos := "l9_draw.go:844", after := #[{ on := 5, ground := Ground.data }], guard := none }) (v := .pointer (some ⟨R, 1, none⟩)) rfl (by kernel_rfl) (by kernel_rfl) (by kernel_rfl) (fun _ _ _ h => h) (Or.inl ⟨by rfl, ?_⟩) hHeld ?_
      · intro W hSW
        clear hHeld hSW
        go_simp
      try simp only [Act.put, List.setIfInBounds_toArray, List.set_cons_zero, List.set_cons_succ]
      refine wpAnyH_take (i := 7) (oi := { dst := some 24, op := Op.load 3 (Operand.tmp 23), type := 3, pos := "l9_draw.go:844", after := #[{ on := 6, ground := Ground.data }], guard := none }) (v := .int .i64 0) rfl (by kernel_rfl) (by kernel_rfl) (by kernel_rfl) (fun _ _ _ h => h) (Or.inl ⟨by rfl, ?_⟩) hHeld ?_
      · intro W hSW
        have k0 := cell_kept c0 hSW.out
        have k1 := cell_kept c1 hSW.out
        clear hHeld hSW
        go_simp
      try simp only [Act.put, List.setIfInBounds_toArray, List.set_cons_zero, List.set_cons_succ]
      refine wpAnyH_take (i := 8) (oi := { dst := some 25, op := Op.slice 22 (Operand.tmp 20) (some (Operand.tmp 24)) none none, type := 22, pos := "l9_draw.go:844", after := #[{ on := 3, ground := Ground.data }, { on := 7, ground := Ground.data }], guard := none }) (v := .slice none 0 cap) rfl (by kernel_rfl) (by kernel_rfl) (by kernel_rfl) (fun _ _ _ h => h) (Or.inl ⟨by rfl, ?_⟩) hHeld ?_
      · intro W hSW
        clear hHeld hSW
        go_simp
      try simp only [Act.put, List.setIfInBounds_toArray, List.set_cons_zero, List.set_cons_succ]
      refine wpAnyH_ready (rs := [9]) (by kernel_rfl) (by simp) ?_
      refine AllReadyH.cons (o := { dst := some 26, op := Op.call { callee := Callee.value (Operand.func 25), args := #[Operand.tmp 25], argTypes := #[22] }, type := 31, pos := "l9_draw.go:844", after := #[{ on := 8, ground := Ground.data }], guard := none }) rfl (fun K hK => ?_) AllReadyH.nil
      go_simp
      refine HDA.out.mono ?_
      rintro e w4 ⟨u4, rfl, ho4, hb4⟩
      have HO4 := hide ho4
      have HB4' : Hid (Below w3.heap.size w3 w4) := (Below.refl _ _).drew.trans hb4
      clear ho4 hb4
      go_wp2_with fail
      refine hK.out _ _ HB4'.out (fun hHeld => ?_)
      clear hK K
      try simp only [Act.put, List.setIfInBounds_toArray, List.set_cons_zero, List.set_cons_succ]
      refine wpAnyH_take (i := 10) (oi := { dst := some 7, op := Op.assign (Operand.tmp 26), type := 31, pos := "l9_draw.go:844", after := #[{ on := 9, ground := Ground.data }, { on := 9, ground := Ground.chain }, { on := 0, ground := Ground.phase }, { on := 1, ground := Ground.phase }, { on := 2, ground := Ground.phase }, { on := 3, ground := Ground.phase }, { on := 4, ground := Ground.phase }, { on := 5, ground := Ground.phase }, { on := 6, ground := Ground.phase }, { on := 7, ground := Ground.phase }, { on := 8, ground := Ground.phase }, { on := 9, ground := Ground.phase }], guard := none }) (v := u4) rfl (by kernel_rfl) (by kernel_rfl) (by kernel_rfl) (fun _ _ _ h => h) (Or.inl ⟨by rfl, ?_⟩) hHeld ?_
      · intro W hSW
        clear hHeld hSW
        go_simp
      try simp only [Act.put, List.setIfInBounds_toArray, List.set_cons_zero, List.set_cons_succ]
      refine wpAnyH_done (by kernel_rfl) ?_ _
    case' asm =>
      obtain ⟨ad, rfl⟩ := hsm
      go_wp2_with fail
      refine wp_region_held_drew (S := fun w' => Hid (Below w3.heap.size w3 w')) (by kernel_rfl) ((Below.refl _ _).drew) (fun hHeld => ?_)
      refine wpAnyH_take (i := 0) (oi := { dst := some 17, op := Op.move (Operand.tmp 4), type := 57, pos := "l9_draw.go:844", after := #[], guard := none }) (v := .pointer (some ⟨R, 0, none⟩)) rfl (by kernel_rfl) (by kernel_rfl) (by kernel_rfl) (fun _ _ _ h => h) (Or.inl ⟨by rfl, ?_⟩) hHeld ?_
      · intro W hSW
        clear hHeld hSW
        go_simp
      try simp only [Act.put, List.setIfInBounds_toArray, List.set_cons_zero, List.set_cons_succ]
      refine wpAnyH_take (i := 1) (oi := { dst := some 18, op := Op.nilCheck (Operand.tmp 17), type := 0, pos := "l9_draw.go:844", after := #[{ on := 0, ground := Ground.data }], guard := none }) (v := .pointer (some ⟨R, 0, none⟩)) rfl (by kernel_rfl) (by kernel_rfl) (by kernel_rfl) (fun _ _ _ h => h) (Or.inl ⟨by rfl, ?_⟩) hHeld ?_
      · intro W hSW
        clear hHeld hSW
        go_simp
      try simp only [Act.put, List.setIfInBounds_toArray, List.set_cons_zero, List.set_cons_succ]
      refine wpAnyH_take (i := 2) (oi := { dst := some 19, op := Op.fieldAddr 61 (Operand.tmp 18) 0, type := 0, pos := "l9_draw.go:844", after := #[{ on := 1, ground := Ground.data }], guard := none }) (v := .pointer (some ⟨R, 0, none⟩)) rfl (by kernel_rfl) (by kernel_rfl) (by kernel_rfl) (fun _ _ _ h => h) (Or.inl ⟨by rfl, ?_⟩) hHeld ?_
      · intro W hSW
        clear hHeld hSW
        go_simp
      try simp only [Act.put, List.setIfInBounds_toArray, List.set_cons_zero, List.set_cons_succ]
      refine wpAnyH_take (i := 3) (oi := { dst := some 20, op := Op.load 22 (Operand.tmp 19), type := 22, pos := "l9_draw.go:844", after := #[{ on := 2, ground := Ground.data }], guard := none }) (v := .slice (some ad) 0 cap) rfl (by kernel_rfl) (by kernel_rfl) (by kernel_rfl) (fun _ _ _ h => h) (Or.inl ⟨by rfl, ?_⟩) hHeld ?_
      · intro W hSW
        have k0 := cell_kept c0 hSW.out
        have k1 := cell_kept c1 hSW.out
        clear hHeld hSW
        go_simp
      try simp only [Act.put, List.setIfInBounds_toArray, List.set_cons_zero, List.set_cons_succ]
      refine wpAnyH_take (i := 4) (oi := { dst := some 21, op := Op.move (Operand.tmp 4), type := 57, pos := "l9_draw.go:844", after := #[], guard := none }) (v := .pointer (some ⟨R, 0, none⟩)) rfl (by kernel_rfl) (by kernel_rfl) (by kernel_rfl) (fun _ _ _ h => h) (Or.inl ⟨by rfl, ?_⟩) hHeld ?_
      · intro W hSW
        clear hHeld hSW
        go_simp
      try simp only [Act.put, List.setIfInBounds_toArray, List.set_cons_zero, List.set_cons_succ]
      refine wpAnyH_take (i := 5) (oi := { dst := some 22, op := Op.nilCheck (Operand.tmp 21), type := 0, pos := "l9_draw.go:844", after := #[{ on := 4, ground := Ground.data }], guard := none }) (v := .pointer (some ⟨R, 0, none⟩)) rfl (by kernel_rfl) (by kernel_rfl) (by kernel_rfl) (fun _ _ _ h => h) (Or.inl ⟨by rfl, ?_⟩) hHeld ?_
      · intro W hSW
        clear hHeld hSW
        go_simp
      try simp only [Act.put, List.setIfInBounds_toArray, List.set_cons_zero, List.set_cons_succ]
      refine wpAnyH_take (i := 6) (oi := { dst := some 23, op := Op.fieldAddr 61 (Operand.tmp 22) 1, type := 0, pos := "l9_draw.go:844", after := #[{ on := 5, ground := Ground.data }], guard := none }) (v := .pointer (some ⟨R, 1, none⟩)) rfl (by kernel_rfl) (by kernel_rfl) (by kernel_rfl) (fun _ _ _ h => h) (Or.inl ⟨by rfl, ?_⟩) hHeld ?_
      · intro W hSW
        clear hHeld hSW
        go_simp
      try simp only [Act.put, List.setIfInBounds_toArray, List.set_cons_zero, List.set_cons_succ]
      refine wpAnyH_take (i := 7) (oi := { dst := some 24, op := Op.load 3 (Operand.tmp 23), type := 3, pos := "l9_draw.go:844", after := #[{ on := 6, ground := Ground.data }], guard := none }) (v := .int .i64 0) rfl (by kernel_rfl) (by kernel_rfl) (by kernel_rfl) (fun _ _ _ h => h) (Or.inl ⟨by rfl, ?_⟩) hHeld ?_
      · intro W hSW
        have k0 := cell_kept c0 hSW.out
        have k1 := cell_kept c1 hSW.out
        clear hHeld hSW
        go_simp
      try simp only [Act.put, List.setIfInBounds_toArray, List.set_cons_zero, List.set_cons_succ]
      refine wpAnyH_take (i := 8) (oi := { dst := some 25, op := Op.slice 22 (Operand.tmp 20) (some (Operand.tmp 24)) none none, type := 22, pos := "l9_draw.go:844", after := #[{ on := 3, ground := Ground.data }, { on := 7, ground := Ground.data }], guard := none }) (v := .slice (some ad) 0 cap) rfl (by kernel_rfl) (by kernel_rfl) (by kernel_rfl) (fun _ _ _ h => h) (Or.inl ⟨by rfl, ?_⟩) hHeld ?_
      · intro W hSW
        clear hHeld hSW
        go_simp
      try simp only [Act.put, List.setIfInBounds_toArray, List.set_cons_zero, List.set_cons_succ]
      refine wpAnyH_ready (rs := [9]) (by kernel_rfl) (by simp) ?_
      refine AllReadyH.cons (o := { dst := some 26, op := Op.call { callee := Callee.value (Operand.func 25), args := #[Operand.tmp 25], argTypes := #[22] }, type := 31, pos := "l9_draw.go:844", after := #[{ on := 8, ground := Ground.data }], guard := none }) rfl (fun K hK => ?_) AllReadyH.nil
      go_simp
      refine HDA.out.mono ?_
      rintro e w4 ⟨u4, rfl, ho4, hb4⟩
      have HO4 := hide ho4
      have HB4' : Hid (Below w3.heap.size w3 w4) := (Below.refl _ _).drew.trans hb4
      clear ho4 hb4
      go_wp2_with fail
      refine hK.out _ _ HB4'.out (fun hHeld => ?_)
      clear hK K
      try simp only [Act.put, List.setIfInBounds_toArray, List.set_cons_zero, List.set_cons_succ]
      refine wpAnyH_take (i := 10) (oi := { dst := some 7, op := Op.assign (Operand.tmp 26), type := 31, pos := "l9_draw.go:844", after := #[{ on := 9, ground := Ground.data }, { on := 9, ground := Ground.chain }, { on := 0, ground := Ground.phase }, { on := 1, ground := Ground.phase }, { on := 2, ground := Ground.phase }, { on := 3, ground := Ground.phase }, { on := 4, ground := Ground.phase }, { on := 5, ground := Ground.phase }, { on := 6, ground := Ground.phase }, { on := 7, ground := Ground.phase }, { on := 8, ground := Ground.phase }, { on := 9, ground := Ground.phase }], guard := none }) (v := u4) rfl (by kernel_rfl) (by kernel_rfl) (by kernel_rfl) (fun _ _ _ h => h) (Or.inl ⟨by rfl, ?_⟩) hHeld ?_
      · intro W hSW
        clear hHeld hSW
        go_simp
      try simp only [Act.put, List.setIfInBounds_toArray, List.set_cons_zero, List.set_cons_succ]
      refine wpAnyH_done (by kernel_rfl) ?_ _
  all_goals
    have HB4 : Hid (Below w.heap.size w w4) := HB3.out.trans (HB4'.out.mono HB3.out.size)
    have his := own_is HO4.out
    have HPK := hide (specPack_own L u4 w4 (by omega) his)
    obtain ⟨a4, c4, rfl⟩ := his.slice
    clear his
    go_wp2_with fail
    refine HPK.out.mono ?_
    rintro e w5 ⟨vp, rfl, hbn, hb5⟩
    have HB5 : Hid (Below w.heap.size w w5) := HB4.out.trans (hb5.mono HB4.out.size)
    have hw45 : w4.heap.size ≤ w5.heap.size := hb5.size
    have hww4 : w.heap.size ≤ w4.heap.size := HB4.out.size
    obtain ⟨Z, hZ⟩ : ∃ Z, pkF L = Z := ⟨_, rfl⟩
    have hZs : Z.size ≤ 1048576 := by rw [← hZ]; exact pkF_size L (by omega)
    rw [hZ] at hbn HDB
    obtain ⟨cc, hcc⟩ : ∃ c, pkC L = c := ⟨_, rfl⟩
    rw [hcc]
    obtain ⟨bl, ⟨ap, bp, op, cp, rfl, hap, hbl, hcp⟩, hfr⟩ := hbn
    clear hZ hcc hb5 HPK HO4 HB4' hHeld
    obtain ⟨K, hK⟩ : ∃ K, k % 8 = K := ⟨_, rfl⟩
    have hK8 : K < 8 := by omega
    have hmodk : (k : Int).tmod 8 = (K : Nat) := by rw [← hK]; exact Int.ofNat_tmod k 8 |>.symm
    have HKK := hide hK
    have HNF : Hid (duN cs (min cs.size 600) = if k = 10 then 9223372036854775807 else if k = 2 then -1 else if K = 1 then (L.length : Int) + (((v % 5 : Nat) : Int) - 2) else L.length) := by show _ = _; rw [HDN.out, hK]
    have HBN : Hid (BNw w w5 (.slice ap Z.size cp) Z) := ⟨bl, ⟨ap, bp, op, cp, rfl, hap, hbl, hcp⟩, hfr.mono hww4 (Nat.le_refl _)⟩
    have HX0 : Hid (¬ (K = 0 ∧ 0 < Z.size) → duB cs (min cs.size 600) = Z) := fun h => by rw [HDB.out]; unfold duX; rw [hK, if_neg h]
    clear HDN
    by_cases q1 : K = 1
    · have s0 : ((K : Int) == 0) = false := by rw [beq_eq_false_iff_ne]; omega
      have s1 : ((K : Int) == 1) = true := by rw [beq_iff_eq]; omega
      have s2 : ((k : Int) == 2) = false := by rw [beq_eq_false_iff_ne]; omega
      have s3 : ((k : Int) == 10) = false := by rw [beq_eq_false_iff_ne]; omega
      obtain ⟨z, hz⟩ : ∃ z, v % 5 = z := ⟨_, rfl⟩
      have hz5 : z < 5 := by omega
      have hmv : (v : Int).tmod 5 = (z : Nat) := by rw [← hz]; exact Int.ofNat_tmod v 5 |>.symm
      have HE : Hid (duN cs (min cs.size 600) = (L.length : Int) + ((z : Int) - 2)) := by show _ = _; rw [HNF.out, if_neg (by omega), if_neg (by omega), if_pos q1, hz]
      have HZ := hide (HX0.out (fun h => by omega))
      clear q1 hz hK
      go_wp2
      go_ret2
      rw [HE.out, HZ.out]
      exact ⟨_, rfl, HBN.out, HB5.out⟩
    by_cases q0 : K = 0
    · have s0 : ((K : Int) == 0) = true := by rw [beq_iff_eq]; omega
      have s1 : ((K : Int) == 1) = false := by rw [beq_eq_false_iff_ne]; omega
      have s2 : ((k : Int) == 2) = false := by rw [beq_eq_false_iff_ne]; omega
      have s3 : ((k : Int) == 10) = false := by rw [beq_eq_false_iff_ne]; omega
      have HE : Hid (duN cs (min cs.size 600) = (L.length : Int)) := by show _ = _; rw [HNF.out, if_neg (by omega), if_neg (by omega), if_neg q1]
      by_cases qm : 0 < Z.size
      · obtain rfl := hap qm
        have hmi : (0 : Int) < (Z.size : Int) := by omega
        obtain ⟨j, hj⟩ : ∃ j, v % Z.size = j := ⟨_, rfl⟩
        have hjm : j < Z.size := by rw [← hj]; exact Nat.mod_lt _ qm
        have hmj : (v : Int).tmod (Z.size : Int) = (j : Nat) := by rw [← hj]; exact Int.ofNat_tmod v Z.size |>.symm
        have hji : (j : Int) < (Z.size : Int) := by omega
        have hZne : ((Z.size : Int) == 0) = false := by rw [beq_eq_false_iff_ne]; omega
        obtain ⟨t, ht⟩ : ∃ t, k / 8 % 8 = t := ⟨_, rfl⟩
        have ht8 : t < 8 := by omega
        obtain ⟨k8, hk8⟩ : ∃ k8, k / 8 = k8 := ⟨_, rfl⟩
        have hd8 : (k : Int).tdiv 8 = (k8 : Nat) := by rw [Int.tdiv_eq_ediv_of_nonneg (by omega), ← hk8]; omega
        have hm8 : (k8 : Int).tmod 8 = (t : Nat) := by rw [Int.tmod_eq_emod_of_nonneg (by omega), ← ht, ← hk8]; omega
        have hk8b : k8 ≤ 32 := by omega
        obtain ⟨g1, g2⟩ := hcp j hjm
        obtain ⟨x, hx⟩ : ∃ x, (Z.get! j).toNat = x := ⟨_, rfl⟩
        unfold bts at g1
        rw [hx] at g1
        have hx8 : x < 256 := by rw [← hx]; exact (Z.get! j).toNat_lt
        have hp8 : 2 ^ t < 256 := by
          have : 2 ^ t ≤ 2 ^ 7 := Nat.pow_le_pow_right (by decide) (by omega)
          omega
        have hxx := u8_xor_nat x (2 ^ t) hx8 hp8
        have h2t : ((2 ^ t : Nat) : Int) = 2 ^ t := by push_cast; rfl
        have e8 : (2 : Int) ^ t % 256 = ((2 ^ t : Nat) : Int) := by rw [← h2t]; exact Int.emod_eq_of_lt (by exact_mod_cast Nat.zero_le _) (by exact_mod_cast hp8)
        obtain ⟨y, hy⟩ : ∃ y, 2 ^ t = y := ⟨_, rfl⟩
        rw [hy] at hxx e8 hp8
        have HXX := hide hxx
        have HCP := hide hcp
        have hbm : bp ∈ bl := by rw [hbl, if_pos qm]; exact List.mem_singleton.2 rfl
        have HLO : Hid (w.heap.size ≤ bp) := Nat.le_trans hww4 (hfr.lo bp hbm)
        have HZB : Hid (duB cs (min cs.size 600) = Z.set! j (UInt8.ofNat (x ^^^ y))) := by
          show _ = _
          rw [HDB.out]
          unfold duX
          rw [hK, if_pos ⟨q0, qm⟩, hj, hx, ht, hy]
        have HBS : Hid (BNw w (w5.setCell ⟨bp, op + j, none⟩ (.int .u8 ((x ^^^ y : Nat) : Int))) (.slice (some ⟨bp, op, none⟩) Z.size cp) (Z.set! j (UInt8.ofNat (x ^^^ y)))) := by
          refine ⟨bl, ⟨some ⟨bp, op, none⟩, bp, op, cp, by rw [set_size], fun _ => rfl, by rw [set_size]; exact hbl, fun i hi => ?_⟩, ?_⟩
          · rw [set_size] at hi
            obtain ⟨g3, g4⟩ := HCP.out i hi
            rw [World.frozen?_setCell]
            refine ⟨?_, g4⟩
            rw [set_hit (u := .int .u8 ((x ^^^ y : Nat) : Int)) g1, set_bts hjm hi (Nat.xor_lt_two_pow (n := 8) hx8 hp8)]
            by_cases e : i = j
            · rw [if_pos (by omega), if_pos e]
            · rw [if_neg (by omega), if_neg e]; exact g3
          · exact (hfr.mono hww4 (by rw [World.size_setCell]; exact Nat.le_refl _))
        clear hK hxx hcp hap hbl hfr hy h2t HX0 HBN hx ht hj
        go_wp2
        go_ret2
        rw [HE.out, HZB.out, HXX.out]
        exact ⟨_, rfl, HBS.out, HB5.out.setCell HLO.out _⟩
      · have s4 : decide (0 < Z.size) = false := decide_eq_false qm
        have HZ := hide (HX0.out (fun h => qm h.2))
        clear hcp hap hbl hfr hK
        go_wp2
        go_ret2
        rw [HE.out, HZ.out]
        exact ⟨_, rfl, HBN.out, HB5.out⟩
    · have s0 : ((K : Int) == 0) = false := by rw [beq_eq_false_iff_ne]; omega
      have s1 : ((K : Int) == 1) = false := by rw [beq_eq_false_iff_ne]; omega
      have HZ := hide (HX0.out (fun h => q0 h.1))
      clear hcp hap hbl hfr hK
      by_cases q2 : k = 2
      · have s2 : ((k : Int) == 2) = true := by rw [beq_iff_eq]; omega
        have s3 : ((k : Int) == 10) = false := by rw [beq_eq_false_iff_ne]; omega
        have HE : Hid (duN cs (min cs.size 600) = -1) := by show _ = _; rw [HNF.out, if_neg (by omega), if_pos q2]
        clear q0 q1 q2
        go_wp2
        go_ret2
        rw [HE.out, HZ.out]
        exact ⟨_, rfl, HBN.out, HB5.out⟩
      have s2 : ((k : Int) == 2) = false := by rw [beq_eq_false_iff_ne]; omega
      by_cases q3 : k = 10
      · have s3 : ((k : Int) == 10) = true := by rw [beq_iff_eq]; omega
        have HE : Hid (duN cs (min cs.size 600) = 9223372036854775807) := by show _ = _; rw [HNF.out, if_pos q3]
        clear q0 q1 q2 q3
        go_wp2
        go_ret2
        rw [HE.out, HZ.out]
        exact ⟨_, rfl, HBN.out, HB5.out⟩
      have s3 : ((k : Int) == 10) = false := by rw [beq_eq_false_iff_ne]; omega
      have HE : Hid (duN cs (min cs.size 600) = (L.length : Int)) := by show _ = _; rw [HNF.out, if_neg q3, if_neg q2, if_neg q1]
      clear q0 q1 q2 q3
      go_wp2
      go_ret2
      rw [HE.out, HZ.out]
      exact ⟨_, rfl, HBN.out, HB5.out⟩
end Go.Proofs.Ytonhehndoifipaa

/-
  The walks of impl.signSize, impl.tokenKind, impl.pieceSize.
  Rows of tokens; how far blanks and tokens reach.
-/
import Derived.Test.YthoinjddamlapaaGreatDoorJToIW
import Derived.Test.YthoinjddamlapaaGreatDoorJToIK
import Derived.Test.YthoinjddamlapaaGreatDoorJToLX
import Derived.Test.YthoinjddamlapaaGreatDoorJToB0
namespace Go.Proofs.YthoinjddamlapaaGreatDoor
open Go.RowKit

set_option maxHeartbeats 1000000 in
set_option maxRecDepth 1000000 in
theorem signSize_one (r : ByteArray) (w : World) (h1 : r.size = 1) :
    Calls Tryz.prog 50 #[.string r] w fun e w' => e = .returned (.int .i64 (sg r 0)) ∧ w' = w := by
  have hoi := one_index (r.get! 0)
  have hsg : sg r 0 = if sl1.contains (r.get! 0) = true then 1 else 0 := by unfold sg; rw [if_neg (fun g => by omega)]
  have HSG := hide hsg
  have hlt : 0 < r.size := by omega
  have hg0 := Utf8W.get!_of_lt r 0 hlt
  obtain ⟨x, hx⟩ : ∃ x, r[0]'hlt = x := ⟨_, rfl⟩
  rw [hx] at hg0
  rw [hg0] at hoi HSG
  have hcx : ((x.toNat : Int)).toNat.toUInt8 = x := by simp
  have HIB := fun w => ib_is ⟨#[40, 41, 123, 125, 44, 59, 61, 60, 62, 38, 43, 45, 42, 47, 37, 33]⟩ (x.toNat : Int) (Lib.indexByte [40, 41, 123, 125, 44, 59, 61, 60, 62, 38, 43, 45, 42, 47, 37, 33] x) (by rw [hcx]) w
  obtain ⟨i, hi⟩ : ∃ i, Lib.indexByte [40, 41, 123, 125, 44, 59, 61, 60, 62, 38, 43, 45, 42, 47, 37, 33] x = i := ⟨_, rfl⟩
  rw [hi] at HIB hoi
  have HIB' := hide HIB
  have HOI := hide hoi
  have t0 : decide ((2 : Int) ≤ (r.size : Int)) = false := decide_eq_false (by omega)
  clear hoi hsg hg0 hcx HIB hi h1
  cases hone : sl1.contains x with
  | true =>
    have t1 : decide (0 ≤ i) = true := HOI.out.trans hone
    rw [hone] at HSG
    clear hone HOI
    go_enter Tryz.func50, Tryz.ntmps50
    go_wp2_with (go_at_call 61; refine (HIB'.out _).mono ?_; rintro e w' ⟨rfl, rfl⟩)
    go_ret
    exact ⟨by rw [HSG.out]; rfl, rfl⟩
  | false =>
    have t1 : decide (0 ≤ i) = false := HOI.out.trans hone
    rw [hone] at HSG
    clear hone HOI
    go_enter Tryz.func50, Tryz.ntmps50
    go_wp2_with (go_at_call 61; refine (HIB'.out _).mono ?_; rintro e w' ⟨rfl, rfl⟩)
    go_ret
    exact ⟨by rw [HSG.out]; rfl, rfl⟩

theorem signSize_any (r : ByteArray) (w : World) (hs : r.size ≤ 1048576) (h1 : 1 ≤ r.size) :
    Calls Tryz.prog 50 #[.string r] w fun e w' => e = .returned (.int .i64 (sg r 0)) ∧ w' = w := by
  by_cases h : 2 ≤ r.size
  · exact signSize_two r w hs h
  · exact signSize_one r w (by omega)

/-- The kind of a token, by the kind of its piece. -/
def tkd (k : Nat) (x : ByteArray) : Nat := if k = 4 then 3 else if k = 5 then 4 else if k = 6 then 5 else if isW x = true then 2 else 1

set_option maxHeartbeats 1000000 in
set_option maxRecDepth 1000000 in
theorem tokenKind_any (k : Nat) (x : ByteArray) (w : World) (hk : k ≤ 6) :
    Calls Tryz.prog 32 #[.int .i64 k, .string x] w fun e w' => e = .returned (.int .i64 (tkd k x)) ∧ w' = w := by
  have HW := implWord_any x w
  by_cases h4 : k = 4
  · subst h4
    go_enter Tryz.func32, Tryz.ntmps32
    go_wp2
    go_ret
    exact ⟨rfl, rfl⟩
  by_cases h5 : k = 5
  · subst h5
    go_enter Tryz.func32, Tryz.ntmps32
    go_wp2
    go_ret
    exact ⟨rfl, rfl⟩
  by_cases h6 : k = 6
  · subst h6
    go_enter Tryz.func32, Tryz.ntmps32
    go_wp2
    go_ret
    exact ⟨rfl, rfl⟩
  have t4 : ((k : Int) == 4) = false := by rw [beq_eq_false_iff_ne]; omega
  have t5 : ((k : Int) == 5) = false := by rw [beq_eq_false_iff_ne]; omega
  have t6 : ((k : Int) == 6) = false := by rw [beq_eq_false_iff_ne]; omega
  have HT : Hid (tkd k x = if isW x = true then 2 else 1) := by show _ = _; unfold tkd; rw [if_neg h4, if_neg h5, if_neg h6]
  clear h4 h5 h6
  cases hw : isW x with
  | true =>
    rw [hw] at HW HT
    have HW' := hide HW
    clear hw HW
    go_enter Tryz.func32, Tryz.ntmps32
    go_wp2_with (go_at_call 51; refine HW'.out.mono ?_; rintro e w' ⟨rfl, rfl⟩)
    go_ret
    exact ⟨by rw [HT.out]; rfl, rfl⟩
  | false =>
    rw [hw] at HW HT
    have HW' := hide HW
    clear hw HW
    go_enter Tryz.func32, Tryz.ntmps32
    go_wp2_with (go_at_call 51; refine HW'.out.mono ?_; rintro e w' ⟨rfl, rfl⟩)
    go_ret
    exact ⟨by rw [HT.out]; rfl, rfl⟩

/-- How long a piece is, by its kind. -/
def psz (k : Nat) (r : ByteArray) : Nat := if k = 0 then 1 else if k = 1 then 2 + ln r 2 else if k = 2 then bsz (bc r 2 r.size) else if k = 3 then run r 0 else if k = 4 then nsz r else if k = 5 then (litRes r 0).2 else sg r 0

set_option maxHeartbeats 1000000 in
set_option maxRecDepth 1000000 in
theorem pieceSize_any (r : ByteArray) (w : World) (m : Int) (te1 te2 : TypeId) (pe1 pe2 : Value) (hs : r.size ≤ 1048576) (h1 : 1 ≤ r.size) (hok : chk r = (0, 0)) (hT : Lib.Utf8Tabs 0 1 w)
    (hM : w.cell? ⟨2, 0, none⟩ = some (.int .i64 m)) (hE : w.cell? ⟨3, 0, none⟩ = some (.iface te1 pe1)) (hR : w.cell? ⟨4, 0, none⟩ = some (.iface te2 pe2)) :
    Calls Tryz.prog 31 #[.int .i64 (pk r), .string r] w fun e w' => e = .returned (.int .i64 (psz (pk r) r)) ∧ Below w.heap.size w w' := by
  have HSIGN := hide (signSize_any r w hs h1)
  have HLIT := hide (rl_any r w m te1 pe1 hs hok hT hM hE)
  have HRUN := hide (runSize_any r w hs)
  have HNUM := hide (fun hd => numberSize_any r w te1 te2 pe1 pe2 hs h1 hd hE hR)
  have HBLK := hide (fun h2 => block_any r w m hs h2 hM)
  have HLINE := hide (fun h2 => line_any r w hs h2)
  have hpk : (pk r = 0) ∨ (pk r = 1 ∧ 2 ≤ r.size ∧ (r.get! 0).toNat = 47 ∧ (r.get! 1).toNat = 47) ∨ (pk r = 2 ∧ 2 ≤ r.size) ∨ (pk r = 4 ∧ isD (r.get! 0).toNat = true) ∨ pk r = 3 ∨ pk r = 5 ∨ pk r = 6 := by
    unfold pk
    split
    · exact .inl rfl
    split
    · rename_i h; exact .inr (.inl ⟨rfl, h.1, by rw [h.2.1]; rfl, by rw [h.2.2]; rfl⟩)
    split
    · rename_i h; exact .inr (.inr (.inl ⟨rfl, h.1⟩))
    split
    · rename_i h; exact .inr (.inr (.inr (.inl ⟨rfl, h⟩)))
    split
    · exact .inr (.inr (.inr (.inr (.inl rfl))))
    split
    · exact .inr (.inr (.inr (.inr (.inr (.inl rfl)))))
    · exact .inr (.inr (.inr (.inr (.inr (.inr rfl)))))
  clear hok hT hM hE hR
  rcases hpk with e | ⟨e, h2, h0, h1'⟩ | ⟨e, h2⟩ | ⟨e, hd⟩ | e | e | e
  · rw [e]
    show Calls _ _ _ _ fun e w' => e = .returned (.int .i64 ((1 : Nat) : Int)) ∧ _
    clear e
    go_enter Tryz.func31, Tryz.ntmps31
    go_wp2
    go_ret
    exact ⟨rfl, Below.refl _ _⟩
  · rw [e]
    have H := hide (HLINE.out h2 h0 h1')
    show Calls _ _ _ _ fun e w' => e = .returned (.int .i64 ((2 + ln r 2 : Nat) : Int)) ∧ _
    obtain ⟨n, hn⟩ : ∃ n : Nat, 2 + ln r 2 = n := ⟨_, rfl⟩
    rw [hn] at H ⊢
    clear e hn
    go_enter Tryz.func31, Tryz.ntmps31
    go_wp2_with fail
    refine H.out.mono ?_
    rintro e w' ⟨rfl, rfl⟩
    go_wp2
    go_ret
    exact ⟨rfl, Below.refl _ _⟩
  · rw [e]
    have H := hide (HBLK.out h2)
    show Calls _ _ _ _ fun e w' => e = .returned (.int .i64 ((bsz (bc r 2 r.size) : Nat) : Int)) ∧ _
    obtain ⟨n, hn⟩ : ∃ n : Nat, bsz (bc r 2 r.size) = n := ⟨_, rfl⟩
    rw [hn] at H ⊢
    clear e hn
    go_enter Tryz.func31, Tryz.ntmps31
    go_wp2_with fail
    refine H.out.mono ?_
    rintro e w' ⟨rfl, rfl⟩
    go_wp2
    go_ret
    exact ⟨rfl, Below.refl _ _⟩
  · rw [e]
    have H := hide (HNUM.out hd)
    show Calls _ _ _ _ fun e w' => e = .returned (.int .i64 ((nsz r : Nat) : Int)) ∧ _
    obtain ⟨n, hn⟩ : ∃ n : Nat, nsz r = n := ⟨_, rfl⟩
    rw [hn] at H ⊢
    clear e hn hd
    go_enter Tryz.func31, Tryz.ntmps31
    go_wp2_with fail
    refine H.out.mono ?_
    rintro e w1 ⟨rfl, hb⟩
    have HB := hide hb
    clear hb
    go_wp2
    go_ret
    exact ⟨rfl, HB.out⟩
  · rw [e]
    show Calls _ _ _ _ fun e w' => e = .returned (.int .i64 ((run r 0 : Nat) : Int)) ∧ _
    obtain ⟨n, hn⟩ : ∃ n : Nat, run r 0 = n := ⟨_, rfl⟩
    rw [hn] at HRUN ⊢
    clear e hn
    go_enter Tryz.func31, Tryz.ntmps31
    go_wp2_with fail
    refine HRUN.out.mono ?_
    rintro e w1 ⟨rfl, hb⟩
    have HB := hide hb
    clear hb
    go_wp2
    go_ret
    exact ⟨rfl, HB.out⟩
  · rw [e]
    show Calls _ _ _ _ fun e w' => e = .returned (.int .i64 (((litRes r 0).2 : Nat) : Int)) ∧ _
    obtain ⟨n, hn⟩ : ∃ n : Nat, (litRes r 0).2 = n := ⟨_, rfl⟩
    rw [hn] at HLIT ⊢
    clear e hn
    go_enter Tryz.func31, Tryz.ntmps31
    go_wp2_with fail
    refine HLIT.out.mono ?_
    rintro e w1 ⟨v', rfl, ho, hb⟩
    have HB := hide hb
    clear hb ho
    go_wp2
    go_ret
    exact ⟨rfl, HB.out⟩
  · rw [e]
    show Calls _ _ _ _ fun e w' => e = .returned (.int .i64 ((sg r 0 : Nat) : Int)) ∧ _
    obtain ⟨n, hn⟩ : ∃ n : Nat, sg r 0 = n := ⟨_, rfl⟩
    rw [hn] at HSIGN ⊢
    clear e hn
    go_enter Tryz.func31, Tryz.ntmps31
    go_wp2_with fail
    refine HSIGN.out.mono ?_
    rintro e w' ⟨rfl, rfl⟩
    go_wp2
    go_ret
    exact ⟨rfl, Below.refl _ _⟩
end Go.Proofs.YthoinjddamlapaaGreatDoor

namespace Go.Proofs.YthoinjddamlapaaGreatDoor
open Go.RowKit

/-- Tokens as cells. -/
def tcv : List (Nat × Nat × Nat) → List Value
  | [] => []
  | t :: r => .int .i64 (t.1 : Nat) :: .int .i64 (t.2.1 : Nat) :: .int .i64 (t.2.2 : Nat) :: tcv r
theorem tcv_length : ∀ l, (tcv l).length = l.length * 3
  | [] => rfl
  | _ :: r => by simp only [tcv, List.length_cons, tcv_length r]; omega
theorem tcv_append : ∀ a b, tcv (a ++ b) = tcv a ++ tcv b
  | [], _ => rfl
  | t :: r, b => by simp only [List.cons_append, tcv, tcv_append r b]
theorem tcv_one : ∀ l, ∀ u ∈ tcv l, u.oneCell' = true
  | [], _, h => by cases h
  | t :: r, u, h => by
    simp only [tcv, List.mem_cons] at h
    rcases h with rfl | rfl | rfl | h
    · rfl
    · rfl
    · rfl
    · exact tcv_one r u h

theorem Tryz.infoTok : (Tryz.prog.info? 28).map (fun i => (i.zero, i.size, i.bytes)) = some (some (.agg #[.int .i64 0, .int .i64 0, .int .i64 0]), 3, 24) := by kernel_rfl

/-- append of a token onto a row of the call's own. -/
theorem wp_tok {ops : Array Oper} {rest : List Oper} {o : Oper} {a : Act} {Q : Exit → Act → World → Prop} {w : World} (hgd : o.guard = none) (s x : Operand)
    (ho : o.op = .call { callee := .builtin .append, args := #[s, x], argTypes := #[24, 24] }) (B : Nat) (v : Value) (xs : List (Nat × Nat × Nat)) (hs : a.eval s = v) (hown : w.ownsRow B 28 3 v xs.length (tcv xs))
    (g c : Nat) (t : Nat × Nat × Nat) (hx : a.eval x = .slice (some ⟨g, 0, none⟩) 1 c) (hnews : ∀ j u, (tcv [t])[j]? = some u → w.cell? ⟨g, j, none⟩ = some u) (hlen : xs.length ≤ 100000000) (hbase : B ≤ w.heap.size)
    (h : ∀ v' w' l, Hid (l = xs ++ [t]) → w'.ownsRow B 28 3 v' l.length (tcv l) → w.grownBy w' v.ownBlock → wpList Tryz.prog ops Q rest (a.put o.dst v') w') : wpList Tryz.prog ops Q (o :: rest) a w := by
  obtain ⟨i0, hi, hz0, hz1, hz2⟩ := info_parts Tryz.infoTok
  refine wpList_append_own _ hgd s x 24 ho B 28 i0 _ 3 24 Tryz.underlying24 hi hz0 hz1 hz2 rfl (by decide) v xs.length (tcv xs) hs hown ⟨g, 0, none⟩ 1 c (tcv [t]) hx rfl (fun j u hj => ?_) (tcv_one [t]) (by unfold maxLen; omega) (by omega) hbase (fun v' w' h1 h2 _ => ?_)
  · have e : (⟨g, 0, none⟩ : Addr).add j = ⟨g, j, none⟩ := by unfold Addr.add; split <;> simp_all
    rw [e]; exact hnews j u hj
  · refine h v' w' (xs ++ [t]) rfl ?_ h2
    rw [List.length_append, tcv_append]
    exact h1
theorem tok_below {B : Nat} {w0 w w' : World} {v : Value} {n : Nat} {xs : List Value} {e k : Nat} (h : Below B w0 w) (hown : w.ownsRow B e k v n xs) (hB : B ≤ w.heap.size) (hg : w.grownBy w' v.ownBlock) : Below B w0 w' :=
  h.grown hg hB (fun k hk => (hown.lt k hk).1)
theorem own_below {w w' : World} {B e k : Nat} {v : Value} {n : Nat} {xs : List Value} (h : w.ownsRow B e k v n xs) (hb : Below w.heap.size w w') : w'.ownsRow B e k v n xs :=
  h.kept (row := none) ⟨hb.os, hb.tape, hb.output, hb.size, fun k hk _ => hb.block k hk⟩ (by cases v.ownBlock <;> simp)

theorem lex_end {s : ByteArray} {f p : Nat} {acc : List (Nat × Nat × Nat)} (h : ¬ p < s.size) : lex s f p acc = (acc, 0, 0) := by cases f <;> simp [lex, h]
theorem lex_step {s : ByteArray} {f p : Nat} {acc : List (Nat × Nat × Nat)} (hf : s.size < p + f) (h : p < s.size) : ∃ g, f = g + 1 ∧ lex s f p acc =
      (if 0 < bl s p then lex s g (p + (bl s p).toNat) acc
      else if bl s p < 0 then ([], 2, p)
      else if (tok s p).2 = 0 then ([], 2, p)
      else lex s g (p + (tok s p).2) (acc ++ [((tok s p).1, p, (tok s p).2)])) := by
  cases f with
  | zero => omega
  | succ f => exact ⟨f, rfl, by rw [lex, if_pos h]⟩

theorem ln_le (s : ByteArray) (q : Nat) (h : q ≤ s.size) : q + ln s q ≤ s.size := by
  unfold ln
  rcases Nat.eq_zero_or_pos (cw (fun c => c != 10) s q s.size) with g | g
  · omega
  · have := (cw_all (fun c => c != 10) s s.size q (cw (fun c => c != 10) s q s.size - 1) (by omega)).1
    omega
theorem bc_le (s : ByteArray) : ∀ f q r, bc s q f = some r → q ≤ r ∧ r + 1 < s.size
  | 0, _, _, h => by cases h
  | f + 1, q, r, h => by
    rw [bc] at h
    by_cases c : q + 1 < s.size
    · rw [if_pos c] at h
      by_cases d : (s.get! q).toNat = 42 ∧ (s.get! (q + 1)).toNat = 47
      · rw [if_pos d] at h
        have e := Option.some.inj h
        omega
      · rw [if_neg d] at h
        have := bc_le s f (q + 1) r h
        omega
    · rw [if_neg c] at h; cases h
theorem bl_le (s : ByteArray) (p : Nat) (hp : p < s.size) : -1 ≤ bl s p ∧ (p : Int) + bl s p ≤ (s.size : Int) := by
  unfold bl
  by_cases h1 : (s.get! p).toNat = 32 ∨ (s.get! p).toNat = 9 ∨ (s.get! p).toNat = 13 ∨ (s.get! p).toNat = 10
  · rw [if_pos h1]; omega
  rw [if_neg h1]
  by_cases h2 : (s.get! p).toNat ≠ 47 ∨ s.size ≤ p + 1
  · rw [if_pos h2]; omega
  rw [if_neg h2]
  by_cases h3 : (s.get! (p + 1)).toNat = 47
  · rw [if_pos h3]
    have := ln_le s (p + 2) (by omega)
    omega
  rw [if_neg h3]
  by_cases h4 : (s.get! (p + 1)).toNat ≠ 42
  · rw [if_pos h4]; omega
  rw [if_neg h4]
  cases e : bc s (p + 2) s.size with
  | none => show -1 ≤ (-1 : Int) ∧ (p : Int) + -1 ≤ _; omega
  | some q =>
    have := bc_le s _ _ _ e
    show -1 ≤ ((q - p + 2 : Nat) : Int) ∧ (p : Int) + ((q - p + 2 : Nat) : Int) ≤ _
    omega
theorem lit_in (s : ByteArray) : ∀ f i acc l q, i ≤ s.size → lit s f i acc = some (l, q) → i < q ∧ q ≤ s.size
  | 0, _, _, _, _, _, h => by simp [lit] at h
  | f + 1, i, acc, l, q, hi, h => by
    rw [lit] at h
    by_cases h1 : s.size ≤ i
    · rw [if_pos h1] at h; cases h
    rw [if_neg h1] at h
    by_cases h2 : (s.get! i).toNat = 34
    · rw [if_pos h2] at h
      have e : i + 1 = q := by injection h with h; injection h
      omega
    rw [if_neg h2] at h
    by_cases h3 : (s.get! i).toNat = 10
    · rw [if_pos h3] at h; cases h
    rw [if_neg h3] at h
    by_cases h4 : (s.get! i).toNat = 92
    · rw [if_pos h4] at h
      by_cases h5 : (esc s (i + 1)).2 = 0
      · rw [if_pos h5] at h; cases h
      · rw [if_neg h5] at h
        have he := ((esc_le s (i + 1)).2.2 h5).1
        have ih := lit_in s f _ _ l q (by omega) h
        omega
    · rw [if_neg h4] at h
      have ih := lit_in s f _ _ l q (by omega) h
      omega
theorem litRes_le (s : ByteArray) (p : Nat) (hp : p < s.size) : p + (litRes s p).2 ≤ s.size := by
  unfold litRes litAt
  by_cases h : s.size ≤ p ∨ (s.get! p).toNat ≠ 34
  · rw [if_pos h]; show p + 0 ≤ _; omega
  · rw [if_neg h]
    cases e : lit s (s.size + 1) (p + 1) [] with
    | none => show p + 0 ≤ _; omega
    | some lq =>
      obtain ⟨l, q⟩ := lq
      have := lit_in s _ _ _ l q (by omega) e
      show p + (q - p) ≤ _
      omega
theorem sg_le (s : ByteArray) (p : Nat) (hp : p < s.size) : p + sg s p ≤ s.size := by
  unfold sg
  by_cases h : p + 2 ≤ s.size ∧ sl2.contains [s.get! p, s.get! (p + 1)] = true
  · rw [if_pos h]; omega
  · rw [if_neg h]; split <;> omega
theorem tok_le (s : ByteArray) (p : Nat) (hp : p < s.size) : p + (tok s p).2 ≤ s.size := by
  have hr := run_le s p (by omega)
  have hl := litRes_le s p hp
  have hg := sg_le s p hp
  unfold tok
  split
  · exact hr
  · split
    · split
      · show p + 0 ≤ _; omega
      · exact hr
    · split
      · exact hl
      · split
        · show p + 0 ≤ _; omega
        · exact hg
/-- Tokens and two numbers, as an answer. -/
def LexGives (w w' : World) (e : Ending) (r : List (Nat × Nat × Nat) × Nat × Nat) : Prop :=
  ∃ v', e = .returned (.tuple #[v', .int .i64 (r.2.1 : Nat), .int .i64 (r.2.2 : Nat)]) ∧ w'.ownsRow w.heap.size 28 3 v' r.1.length (tcv r.1) ∧ Below w.heap.size w w'
theorem lexGives_nil {w w' : World} {r : List (Nat × Nat × Nat) × Nat × Nat} {a c : Nat} (h : r = ([], a, c)) (hb : Below w.heap.size w w') : LexGives w w' (.returned (.tuple #[.slice none 0 0, .int .i64 a, .int .i64 c])) r := by
  rw [h]; exact ⟨_, rfl, World.ownsRow_nil _ _ _ _, hb⟩
end Go.Proofs.YthoinjddamlapaaGreatDoor

/-
  A declaration, applied by impl: by its kind.
  One declaration more, as impl applies it.
  The walks of waysIn and of the function that it answers.
-/
import Derived.Test.YtijdlbanfdhfnaaGreatDoorJDnIMT
import Derived.Test.YtijdlbanfdhfnaaGreatDoorJDnIMH
import Derived.Test.YtijdlbanfdhfnaaGreatDoorJDnIAF
import Derived.Sort.QuietIn
namespace Go.Proofs.YtijdlbanfdhfnaaGreatDoor
open Go.RowKit

/-- The method that a kind has. -/
def fnK (k : Int) : Nat := if k = 7 then 19 else if k = 8 then 20 else if k = 9 then 21 else if k = 10 then 22 else if k = 11 then 23 else if k = 12 then 24 else if k = 13 then 25 else 26
theorem fnK_7 : fnK 7 = 19 := rfl
theorem fnK_8 : fnK 8 = 20 := rfl
theorem fnK_9 : fnK 9 = 21 := rfl
theorem fnK_10 : fnK 10 = 22 := rfl
theorem fnK_11 : fnK 11 = 23 := rfl
theorem fnK_12 : fnK 12 = 24 := rfl
theorem fnK_13 : fnK 13 = 25 := rfl
theorem fnK_14 : fnK 14 = 26 := rfl
theorem fnK_15 : fnK 15 = 26 := rfl
theorem enK (k : Int) (h0 : 7 ≤ k) (h1 : k ≤ 15) (args : Array Value) (w : World) : (callFunc (fnK k) args).run Tryz.prog w = .ok (.enter (fnK k) args) w := by
  have h : k = 7 ∨ k = 8 ∨ k = 9 ∨ k = 10 ∨ k = 11 ∨ k = 12 ∨ k = 13 ∨ k = 14 ∨ k = 15 := by omega
  rcases h with rfl | rfl | rfl | rfl | rfl | rfl | rfl | rfl | rfl
  · exact call_enter Tryz.func19 (by kernel_rfl) rfl args w
  · exact call_enter Tryz.func20 (by kernel_rfl) rfl args w
  · exact call_enter Tryz.func21 (by kernel_rfl) rfl args w
  · exact call_enter Tryz.func22 (by kernel_rfl) rfl args w
  · exact call_enter Tryz.func23 (by kernel_rfl) rfl args w
  · exact call_enter Tryz.func24 (by kernel_rfl) rfl args w
  · exact call_enter Tryz.func25 (by kernel_rfl) rfl args w
  · exact call_enter Tryz.func26 (by kernel_rfl) rfl args w
  · exact call_enter Tryz.func26 (by kernel_rfl) rfl args w
/-- Where a floor is there. -/
theorem ap_any (F cb cc M mn : Nat) (f : Flo) (vt : Value) (ns : List (Tg × Value)) (d : Dc) (v7 : Value) (i : Nat) (w : World) (h7 : BS w v7 d.name) (hf : FloOk f) (hm : FlI w F cb cc M mn f vt ns) (hM : M < F) (hd : DcOk d) :
    Calls Tryz.prog (fnK d.kind) #[.pointer (some ⟨F, 0, none⟩), dcagg d v7] w (ApQ w F cb cc M f d i) := by
  have h0 := hd.k0
  have h1 := hd.k1
  have h : d.kind = 7 ∨ d.kind = 8 ∨ d.kind = 9 ∨ d.kind = 10 ∨ d.kind = 11 ∨ d.kind = 12 ∨ d.kind = 13 ∨ d.kind = 14 ∨ d.kind = 15 := by omega
  have hs : ∃ a n c, v7 = .slice a n c := by obtain ⟨a, c, e⟩ := h7.slice; exact ⟨a, _, c, e⟩
  rcases h with hk | hk | hk | hk | hk | hk | hk | hk | hk
  · rw [hk, fnK_7]; exact grid_ap F cb cc M mn f vt ns d v7 i w hs hf hm hM hk
  · rw [hk, fnK_8]; exact wall_ap F cb cc M mn f vt ns d v7 i w hs hf hm hM hd hk
  · rw [hk, fnK_9]; exact open_ap F cb cc M mn f vt ns d v7 i w hs hf hm hM hd hk
  · rw [hk, fnK_10]; exact lane_ap F cb cc M mn f vt ns d v7 i w hs hf hm hM hd hk
  · rw [hk, fnK_11]; exact gate_ap F cb cc M mn f vt ns d v7 i w hs hf hm hM hd hk
  · rw [hk, fnK_12]; exact bar_ap F cb cc M mn f vt ns d v7 i w hs hf hm hM hd hk
  · rw [hk, fnK_13]; exact zone_ap F cb cc M mn f vt ns d v7 i w hs hf hm hM hd hk
  · rw [hk, fnK_14]; exact target_ap F cb cc M mn f vt ns d v7 i w h7 hf hm hM hd (.inl hk)
  · rw [hk, fnK_15]; exact target_ap F cb cc M mn f vt ns d v7 i w h7 hf hm hM hd (.inr hk)
/-- A declaration ahead of any grid. -/
theorem inF_zero (d : Dc) : ¬ inF 0 0 d := fun h => by
  obtain ⟨h1, h2, _⟩ := h
  unfold loI at h1
  unfold hiI at h2
  split at h1 <;> split at h2 <;> omega
theorem first_out (F M : Nat) (d : Dc) (v7 : Value) (w : World) (h7 : BS w v7 d.name) (hm : Fl0 w F M) (hd : DcOk d) (hk7 : d.kind ≠ 7) :
    Calls Tryz.prog (fnK d.kind) #[.pointer (some ⟨F, 0, none⟩), dcagg d v7] w fun e w' => e = .returned (.int .i64 8) ∧ Below w.heap.size w w' := by
  have h0 := hd.k0
  have h1 := hd.k1
  have h : d.kind = 8 ∨ d.kind = 9 ∨ d.kind = 10 ∨ d.kind = 11 ∨ d.kind = 12 ∨ d.kind = 13 ∨ d.kind = 14 ∨ d.kind = 15 := by omega
  have hs : ∃ a n c, v7 = .slice a n c := by obtain ⟨a, c, e⟩ := h7.slice; exact ⟨a, _, c, e⟩
  have f0 : w.cell? ⟨F, 0, none⟩ = some (.int .i64 ((0 : Nat) : Int)) := Blk.cell hm 0
  have f1 : w.cell? ⟨F, 1, none⟩ = some (.int .i64 ((0 : Nat) : Int)) := Blk.cell hm 1
  have hB := dcW_below w d v7
  have HL : ∀ g cx, Calls Tryz.prog 50 #[.pointer (some ⟨F, 0, none⟩), dcagg d v7, .func (.func g) #[] cx] (dcW w d v7) fun e w' => ∃ b : Int, e = .returned (.int .i64 b) ∧ (e = .returned (.int .i64 8) ∧ Below w.heap.size w w') := fun g cx =>
    (lay_out F 0 0 d v7 g cx (dcW w d v7) hs (cell_kept f0 hB) (cell_kept f1 hB) (inF_zero d)).mono fun e w' ⟨h1, h2⟩ => ⟨8, h1, h1, hB.trans (h2.mono hB.size)⟩
  rcases h with hk | hk | hk | hk | hk | hk | hk | hk
  · rw [hk, fnK_8]; exact wall_walk F d v7 w _ hs (HL _ _)
  · rw [hk, fnK_9]; exact open_walk F d v7 w _ hs (HL _ _)
  · rw [hk, fnK_10]; exact lane_walk F d v7 w _ hs (HL _ _)
  · rw [hk, fnK_11]; exact gate_walk F d v7 w _ hs (HL _ _)
  · rw [hk, fnK_12]; exact bar_walk F d v7 w _ hs (HL _ _)
  · rw [hk, fnK_13]; exact zone_walk F d v7 w _ hs (fun _ => ⟨rfl, hB⟩) (fun _ => HL _ _)
  · rw [hk, fnK_14]; exact target_out F 0 0 d v7 w h7 f0 f1 (inF_zero d)
  · rw [hk, fnK_15]; exact target_out F 0 0 d v7 w h7 f0 f1 (inF_zero d)
end Go.Proofs.YtijdlbanfdhfnaaGreatDoor

namespace Go.Proofs.YtijdlbanfdhfnaaGreatDoor
open Go.RowKit

/-- What has come of the first k declarations. -/
def DnI (L : List Dc) (F M k : Nat) (V : World) : Prop :=
  (k = 0 ∧ Fl0 V F M ∧ MapN V M 0 (fun _ => 0)) ∨ (1 ≤ k ∧ ∃ f cb cc mn vt ns, FloOk f ∧ FlI V F cb cc M mn f vt ns ∧ grd0 (L.getD 0 .zero) ∧ dnR (flo0 (L.getD 0 .zero).x1.toNat (L.getD 0 .zero).y1.toNat) 1 (L.drop 1) = dnR f k (L.drop k))
theorem DnI.below {L : List Dc} {F M k : Nat} {V V' : World} (h : DnI L F M k V) (hb : Below V.heap.size V V') : DnI L F M k V' := by
  rcases h with ⟨h0, h1, h2⟩ | ⟨h0, f, cb, cc, mn, vt, ns, h1, h2, h3⟩
  · exact .inl ⟨h0, Blk.below h1 hb, h2.keep (hb.block _ h2.lt)⟩
  · exact .inr ⟨h0, f, cb, cc, mn, vt, ns, h1, h2.below hb, h3⟩
theorem DnI.lt {L : List Dc} {F M k : Nat} {V : World} (h : DnI L F M k V) : F < V.heap.size ∧ M < V.heap.size := by
  rcases h with ⟨h0, h1, h2⟩ | ⟨h0, f, cb, cc, mn, vt, ns, h1, h2, h3⟩
  · exact ⟨Blk.lt h1, h2.lt⟩
  · exact ⟨h2.blk.lt, h2.mp.lt⟩
theorem sdD_iff {d : Dc} (hk : d.kind = 7) : sdD d = true ↔ grd0 d := by
  unfold sdD grd0
  simp only [Bool.and_eq_true, decide_eq_true_eq]
  constructor
  · rintro ⟨⟨h1, h2⟩, h3, h4⟩; exact ⟨hk, h1, h2, h3, h4⟩
  · rintro ⟨_, h1, h2, h3, h4⟩; exact ⟨⟨h1, h2⟩, h3, h4⟩
open Classical in
theorem dnA_no {L : List Dc} (h : ¬ dcsOk L) : dnA L = (.zero, 1, 0) := by unfold dnA; rw [if_pos h]
open Classical in
theorem dnA_8 {L : List Dc} (h1 : dcsOk L) (h2 : ¬ (0 < L.length ∧ grd0 (L.getD 0 .zero))) : dnA L = (.zero, 8, 0) := by unfold dnA; rw [if_neg (fun g => g h1), if_pos h2]
open Classical in
theorem dnA_r {L : List Dc} (h1 : dcsOk L) (h2 : 0 < L.length ∧ grd0 (L.getD 0 .zero)) {f : Flo} {b i : Int} (hr : dnR (flo0 (L.getD 0 .zero).x1.toNat (L.getD 0 .zero).y1.toNat) 1 (L.drop 1) = (f, b, i)) (hb : b ≠ 0) : dnA L = (.zero, b, i) := by
  unfold dnA
  rw [if_neg (fun g => g h1), if_neg (fun g => g h2)]
  simp only [hr]
  rw [if_pos hb]
theorem drop_cons {L : List Dc} {k : Nat} (h : k < L.length) : L.drop k = L.getD k .zero :: L.drop (k + 1) := by
  rw [List.drop_eq_getElem_cons h, List.getD_eq_getElem?_getD, List.getElem?_eq_getElem h]; rfl
theorem flo0_okI {p q : Nat} (hp : 1 ≤ p ∧ p ≤ 40) (hq : 1 ≤ q ∧ q ≤ 40) : FloOk (flo0 p q) := FloOk.first hp.1 hp.2 hq.1 hq.2
/-- The next declaration. -/
theorem step_any (L : List Dc) (F M k : Nat) (v7 : Value) (V : World) (hM : M < F) (hok : dcsOk L) (hk : k < L.length) (hI : DnI L F M k V) (h7 : BS V v7 (L.getD k .zero).name) :
    Calls Tryz.prog (fnK (L.getD k .zero).kind) #[.pointer (some ⟨F, 0, none⟩), dcagg (L.getD k .zero) v7] V fun e V' => ∃ b : Int, e = .returned (.int .i64 b) ∧ Below M V V' ∧ V.heap.size ≤ V'.heap.size ∧ (∀ (g : Nat) (t : TypeId) (cs : Array Value), t ≠ 63 → t ≠ 50 → t ≠ 58 → Blk V g t cs → Blk V' g t cs) ∧ (b = 0 → DnI L F M (k + 1) V') ∧ (b ≠ 0 → dnA L = (.zero, b, (k : Int))) := by
  have hd := hok.2 k hk
  have hlt := hI.lt
  have hs : ∃ a n c, v7 = .slice a n c := by obtain ⟨a, c, e⟩ := h7.slice; exact ⟨a, _, c, e⟩
  rcases hI with ⟨rfl, h1, h2⟩ | ⟨h0, f, cb, cc, mn, vt, ns, h1, h2, h3, h4⟩
  · by_cases hk7 : (L.getD 0 .zero).kind = 7
    · by_cases hs7 : sdD (L.getD 0 .zero) = true
      · have hg := (sdD_iff hk7).1 hs7
        obtain ⟨_, g1, g2, g3, g4⟩ := id hg
        rw [hk7, fnK_7]
        refine (grid_ok F M (L.getD 0 .zero).x1.toNat (L.getD 0 .zero).y1.toNat (L.getD 0 .zero) v7 V hs h1 h2 hM (by omega) (by omega) (by omega) (by omega)).mono ?_
        rintro e V' ⟨rfl, b1, b2, b3, cb, cc, b4⟩
        exact ⟨0, rfl, b1, b2, fun g t cs _ _ e3 q => b3 g t cs e3 q, fun _ => .inr ⟨by omega, _, cb, cc, 0, _, _, flo0_okI (by omega) (by omega), b4, hg, rfl⟩, fun h => absurd rfl h⟩
      · have hs8 : sdD (L.getD 0 .zero) = false := by cases h : sdD (L.getD 0 .zero) with | true => exact absurd h hs7 | false => rfl
        rw [hk7, fnK_7]
        refine (grid_bad F M (L.getD 0 .zero) v7 V hs h1 hs8).mono ?_
        rintro e V' ⟨rfl, hb⟩
        exact ⟨8, rfl, hb.mono (by omega), hb.size, fun g t cs _ _ _ q => q.below hb, fun h => by omega, fun _ => dnA_8 hok (fun h => hs7 ((sdD_iff hk7).2 h.2))⟩
    · refine (first_out F M (L.getD 0 .zero) v7 V h7 h1 hd hk7).mono ?_
      rintro e V' ⟨rfl, hb⟩
      exact ⟨8, rfl, hb.mono (by omega), hb.size, fun g t cs _ _ _ q => q.below hb, fun h => by omega, fun _ => dnA_8 hok (fun h => hk7 h.2.1)⟩
  · refine (ap_any F cb cc M mn f vt ns (L.getD k .zero) v7 k V h7 h1 h2 hM hd).mono ?_
    rintro e V' ⟨b, rfl, hb, b1, b2, b3, b4⟩
    have hr : dnR f k (L.drop k) = if apC f (L.getD k .zero) = 0 then dnR (apF f (L.getD k .zero) k) (k + 1) (L.drop (k + 1)) else (f, apC f (L.getD k .zero), (k : Int)) := by rw [drop_cons hk]; rfl
    refine ⟨b, rfl, b1, b2, b3, fun hb0 => ?_, fun hb0 => ?_⟩
    · obtain ⟨mn', vt', ns', hf'⟩ := b4 hb0
      have hc : apC f (L.getD k .zero) = 0 := by rw [← hb]; exact hb0
      exact .inr ⟨by omega, _, cb, cc, mn', vt', ns', (apF_ok h1 hd hc).1, hf', h3, by rw [h4, hr, if_pos hc]⟩
    · have hc : ¬ apC f (L.getD k .zero) = 0 := by rw [← hb]; exact hb0
      rw [hr, if_neg hc] at h4
      rw [hb]
      exact dnA_r hok ⟨by omega, h3⟩ h4 hc
end Go.Proofs.YtijdlbanfdhfnaaGreatDoor

namespace Go.Proofs.YtijdlbanfdhfnaaGreatDoor
open Go.RowKit Go.Shelf

attribute [local go_sem] Oper.semAt_some

def encW (x : Fin 4) : Array Value := #[.int .i64 (x.1 : Nat)]
def wy1 (P : Nat → Bool) (d : Fin 4) : List (Fin 4) := if P d.1 then [d] else []
/-- The ways of a sum, from k on. -/
def wyr (P : Nat → Bool) : Nat → List (Fin 4)
  | 0 => wy1 P 0 ++ (wy1 P 1 ++ (wy1 P 2 ++ (wy1 P 3 ++ [])))
  | 1 => wy1 P 1 ++ (wy1 P 2 ++ (wy1 P 3 ++ []))
  | 2 => wy1 P 2 ++ (wy1 P 3 ++ [])
  | 3 => wy1 P 3 ++ []
  | _ => []
theorem wyr_step (P : Nat → Bool) (k : Nat) (h : k < 4) : wyr P k = wy1 P ⟨k, h⟩ ++ wyr P (k + 1) := by
  match k, h with
  | 0, _ => rfl
  | 1, _ => rfl
  | 2, _ => rfl
  | 3, _ => rfl

set_option maxRecDepth 1000000 in
set_option maxHeartbeats 1000000 in
theorem waysIn_in (n : Nat) (s : Int) (w : World) :
    CallsIn Fence.wide n Tryz.prog 73 #[.int .i64 s] w fun e w' => e = .returned (.func (.func 83) #[] #[.pointer (some ⟨w.heap.size, 0, none⟩)]) ∧ w' = w.alloc (.cells #[.int .i64 s] 3) := by
  refine callsIn_of_wp Tryz.func73 rfl trivial ?_ rfl
  simp only [Tryz.ntmps73, List.size_toArray, List.length_cons, List.length_nil, Nat.reduceAdd, Nat.reduceSub, Array.replicate_succ, Array.replicate_zero, List.push_toArray, List.append_toArray, List.nil_append, List.cons_append]
  gi_wp2
  go_ret
  exact ⟨rfl, rfl⟩

/-- What a round's body answers, as one bool. -/
theorem yb_of {e : Ending} {A B : Prop} (h : (e = .returned (.bool true) ∧ A) ∨ (e = .returned (.bool false) ∧ B)) : ∃ b : Bool, e = .returned (.bool b) ∧ ((b = true ∧ A) ∨ (b = false ∧ B)) := by
  rcases h with ⟨h1, h2⟩ | ⟨h1, h2⟩
  · exact ⟨true, h1, .inl ⟨rfl, h2⟩⟩
  · exact ⟨false, h1, .inr ⟨rfl, h2⟩⟩

set_option maxRecDepth 1000000 in
set_option maxHeartbeats 4000000 in
theorem ways1_in (n : Nat) (hn : 1 ≤ n) (l Bn : Nat) (s : Int) (P : Nat → Bool) (hP0 : (bits .and .i64 s 1 != 0) = P 0) (hP1 : (bits .and .i64 s 2 != 0) = P 1) (hP2 : (bits .and .i64 s 4 != 0) = P 2) (hP3 : (bits .and .i64 s 8 != 0) = P 3) (J Jx : List (Fin 4) → World → Prop) (W w0 : World) (hJ : AbidesFrom W.heap.size J)
    (hY : ∀ pre x W1, J pre W1 → pre.length < (wyr P 0).length → YieldAt Fence.wide (n - 1) Tryz.prog l (encW x) W1 fun e W' =>
      (e = .returned (.bool true) ∧ J (pre ++ [x]) W' ∧ KpB w0.heap.size Bn W1 W') ∨ (e = .returned (.bool false) ∧ Jx (pre ++ [x]) W'))
    (hBn : W.cell? ⟨Bn, 0, none⟩ = some (.int .i64 s)) (hW : Below w0.heap.size w0 W) (h0 : J [] W) :
    CallsIn Fence.wide n Tryz.prog 83 #[.func (.yield l) #[] #[], .pointer (some ⟨Bn, 0, none⟩)] W fun e W' => (∃ v, e = .returned v) ∧
      ((∃ ys, ys = wyr P 0 ∧ J ys W') ∨ (∃ pre, pre <+: wyr P 0 ∧ Jx pre W')) := by
  obtain ⟨A, hA⟩ : ∃ A, wyr P 0 = A := ⟨_, rfl⟩
  rw [hA] at hY ⊢
  have HA := hide hA
  have HJ := hide hJ
  have HY := hide hY
  have HW := hide hW
  have H0 := hide h0
  have HP : Hid (((bits .and .i64 s 1 != 0) = P 0) ∧ ((bits .and .i64 s 2 != 0) = P 1) ∧ ((bits .and .i64 s 4 != 0) = P 2) ∧ ((bits .and .i64 s 8 != 0) = P 3)) := ⟨hP0, hP1, hP2, hP3⟩
  clear hA hJ hY hW h0 hP0 hP1 hP2 hP3
  refine callsIn_of_wp Tryz.func83 rfl trivial ?_ rfl
  simp only [Tryz.ntmps83, List.size_toArray, List.length_cons, List.length_nil, Nat.reduceAdd, Nat.reduceSub, Array.replicate_succ, Array.replicate_zero, List.push_toArray, List.append_toArray, List.nil_append, List.cons_append]
  gi_wp2
  gi_loopw [4] (fun ix wr => ∃ (k : Nat) (pre : List (Fin 4)), ix = .int .i64 k ∧ k ≤ 4 ∧ A = pre ++ wyr P k ∧ J pre wr ∧ Below w0.heap.size w0 wr ∧ W.heap.size ≤ wr.heap.size ∧ wr.cell? ⟨Bn, 0, none⟩ = some (.int .i64 s)) (fun ix _ => 4 - (intOf ix).toNat)
  case atStart => exact ⟨0, [], rfl, Nat.zero_le _, by rw [HA.out]; rfl, H0.out, HW.out, Nat.le_refl _, hBn⟩
  case round =>
    obtain ⟨k, pre, rfl, hk, hA, hJs, hbl, hWs, hcs⟩ := hrel
    have HAA := hide hA
    have HJS := hide hJs
    have HBL := hide hbl
    clear hA hJs hbl
    by_cases hlt : k < 4
    · have d1 : decide ((k : Int) < 4) = true := decide_eq_true (by omega)
      have hst := hide (wyr_step P k hlt)
      obtain ⟨m, hm, hz⟩ : ∃ m : Int, (bits .and .i64 s m != 0) = P k ∧ ((k = 0 ∧ m = 1) ∨ (k = 1 ∧ m = 2) ∨ (k = 2 ∧ m = 4) ∨ (k = 3 ∧ m = 8)) := by
        obtain ⟨e0, e1, e2, e3⟩ := HP.out
        match k, hlt with
        | 0, _ => exact ⟨1, e0, by simp⟩
        | 1, _ => exact ⟨2, e1, by simp⟩
        | 2, _ => exact ⟨4, e2, by simp⟩
        | 3, _ => exact ⟨8, e3, by simp⟩
      obtain ⟨b, hb⟩ : ∃ b, P k = b := ⟨_, rfl⟩
      rw [hb] at hm
      have e1 : IntKind.i64.wrap 1 = 1 := by decide
      have e2 : IntKind.i64.wrap 2 = 2 := by decide
      have e4 : IntKind.i64.wrap 4 = 4 := by decide
      have e8 : IntKind.i64.wrap 8 = 8 := by decide
      cases b with
      | false =>
        have HE : Hid (A = pre ++ wyr P (k + 1)) := by
          show _ = _
          rw [HAA.out, hst.out]
          unfold wy1
          simp [hb]
        rcases hz with ⟨rfl, rfl⟩ | ⟨rfl, rfl⟩ | ⟨rfl, rfl⟩ | ⟨rfl, rfl⟩
        · gi_wp2
          refine wpIn_region_quiet_lit rfl (by kernel_rfl) (by kernel_rfl) ?_
          repeat (gi_big_quiet_step (fail))
          refine BigFrame.wpQuietIn_skip (fun _ _ _ _ => trivial) rfl ?_
          change wpQuietIn _ _ _ _ _ _ _ { tmps := #[_, _, _, _, _, _, _, _, _, _, _, _, _, _, _, undef, _, _, _], defers := [] }
          repeat (gi_big_quiet_step (fail))
          refine wpQuietIn_nil ?_
          rintro _ ⟨nq, rfl⟩
          gi_wp2
          go_roundw
          case rel => exact ⟨1, pre, rfl, by omega, HE.out, HJ.out pre wr _ none HJS.out (below_grown (below_drewN (Below.refl _ _) nq)) (fun r e => by cases e), below_drewN HBL.out nq, hWs, hcs⟩
          case measure => simp [intOf]
        · gi_wp2
          refine wpIn_region_quiet_lit rfl (by kernel_rfl) (by kernel_rfl) ?_
          repeat (gi_big_quiet_step (fail))
          refine BigFrame.wpQuietIn_skip (fun _ _ _ _ => trivial) rfl ?_
          change wpQuietIn _ _ _ _ _ _ _ { tmps := #[_, _, _, _, _, _, _, _, _, _, _, _, _, _, _, undef, _, _, _], defers := [] }
          repeat (gi_big_quiet_step (fail))
          refine wpQuietIn_nil ?_
          rintro _ ⟨nq, rfl⟩
          gi_wp2
          go_roundw
          case rel => exact ⟨2, pre, rfl, by omega, HE.out, HJ.out pre wr _ none HJS.out (below_grown (below_drewN (Below.refl _ _) nq)) (fun r e => by cases e), below_drewN HBL.out nq, hWs, hcs⟩
          case measure => simp [intOf]
        · gi_wp2
          refine wpIn_region_quiet_lit rfl (by kernel_rfl) (by kernel_rfl) ?_
          repeat (gi_big_quiet_step (fail))
          refine BigFrame.wpQuietIn_skip (fun _ _ _ _ => trivial) rfl ?_
          change wpQuietIn _ _ _ _ _ _ _ { tmps := #[_, _, _, _, _, _, _, _, _, _, _, _, _, _, _, undef, _, _, _], defers := [] }
          repeat (gi_big_quiet_step (fail))
          refine wpQuietIn_nil ?_
          rintro _ ⟨nq, rfl⟩
          gi_wp2
          go_roundw
          case rel => exact ⟨3, pre, rfl, by omega, HE.out, HJ.out pre wr _ none HJS.out (below_grown (below_drewN (Below.refl _ _) nq)) (fun r e => by cases e), below_drewN HBL.out nq, hWs, hcs⟩
          case measure => simp [intOf]
        · gi_wp2
          refine wpIn_region_quiet_lit rfl (by kernel_rfl) (by kernel_rfl) ?_
          repeat (gi_big_quiet_step (fail))
          refine BigFrame.wpQuietIn_skip (fun _ _ _ _ => trivial) rfl ?_
          change wpQuietIn _ _ _ _ _ _ _ { tmps := #[_, _, _, _, _, _, _, _, _, _, _, _, _, _, _, undef, _, _, _], defers := [] }
          repeat (gi_big_quiet_step (fail))
          refine wpQuietIn_nil ?_
          rintro _ ⟨nq, rfl⟩
          gi_wp2
          go_roundw
          case rel => exact ⟨4, pre, rfl, by omega, HE.out, HJ.out pre wr _ none HJS.out (below_grown (below_drewN (Below.refl _ _) nq)) (fun r e => by cases e), below_drewN HBL.out nq, hWs, hcs⟩
          case measure => simp [intOf]
      | true =>
        have HE : Hid (A = (pre ++ [⟨k, hlt⟩]) ++ wyr P (k + 1)) := by
          show _ = _
          rw [HAA.out, hst.out]
          unfold wy1
          simp [hb]
        have hlen : pre.length < A.length := by rw [HE.out]; simp
        obtain ⟨fn, tmps, assign, body, hy, hR⟩ := HY.out pre ⟨k, hlt⟩ wr.drew (HJ.out pre wr wr.drew none HJS.out (below_grown (Below.refl _ _).drew) (fun r e => by cases e)) hlen
        dsimp only [encW] at hy
        obtain ⟨kk, hkk⟩ : ∃ kk : Int, (k : Int) = kk := ⟨_, rfl⟩
        rw [hkk] at hy
        have hZ : Hid (∀ A B, KpB w0.heap.size Bn A B → A.heap.size ≤ B.heap.size) := fun A B h => h.1.size
        rcases hz with ⟨rfl, rfl⟩ | ⟨rfl, rfl⟩ | ⟨rfl, rfl⟩ | ⟨rfl, rfl⟩
        · obtain rfl : kk = 0 := by omega
          gi_wp2
          gi_region_with_o (refine hR.mono ?_; rintro e W3 hc; obtain ⟨b, rfl, hc2⟩ := yb_of hc; have HC := hide hc2; clear hc hc2)
          all_goals
            rcases HC.out with ⟨rfl, hJ3, hk3⟩ | ⟨rfl, hJx3⟩
            · have hc3 : W3.cell? ⟨Bn, 0, none⟩ = some (.int .i64 s) := hk3.2.trans hcs
              have HB3 : Hid (Below w0.heap.size w0 W3) := HBL.out.drew.trans hk3.1
              have hWs3 : W.heap.size ≤ W3.heap.size := Nat.le_trans hWs (hZ.out wr.drew W3 hk3)
              have HJ3 := hide hJ3
              clear hk3 hJ3 HC
              gi_wp2
              go_roundw
              case rel => exact ⟨1, _, rfl, by omega, HE.out, HJ3.out, HB3.out, hWs3, hc3⟩
              case measure => simp [intOf]
            · clear HC
              gi_wp2
              refine bodyPost_ret (results_none rfl _ _ _) rfl ?_
              exact ⟨⟨_, rfl⟩, .inr ⟨_, ⟨_, HE.out.symm⟩, hJx3⟩⟩
        · obtain rfl : kk = 1 := by omega
          gi_wp2
          gi_region_with_o (refine hR.mono ?_; rintro e W3 hc; obtain ⟨b, rfl, hc2⟩ := yb_of hc; have HC := hide hc2; clear hc hc2)
          all_goals
            rcases HC.out with ⟨rfl, hJ3, hk3⟩ | ⟨rfl, hJx3⟩
            · have hc3 : W3.cell? ⟨Bn, 0, none⟩ = some (.int .i64 s) := hk3.2.trans hcs
              have HB3 : Hid (Below w0.heap.size w0 W3) := HBL.out.drew.trans hk3.1
              have hWs3 : W.heap.size ≤ W3.heap.size := Nat.le_trans hWs (hZ.out wr.drew W3 hk3)
              have HJ3 := hide hJ3
              clear hk3 hJ3 HC
              gi_wp2
              go_roundw
              case rel => exact ⟨2, _, rfl, by omega, HE.out, HJ3.out, HB3.out, hWs3, hc3⟩
              case measure => simp [intOf]
            · clear HC
              gi_wp2
              refine bodyPost_ret (results_none rfl _ _ _) rfl ?_
              exact ⟨⟨_, rfl⟩, .inr ⟨_, ⟨_, HE.out.symm⟩, hJx3⟩⟩
        · obtain rfl : kk = 2 := by omega
          gi_wp2
          gi_region_with_o (refine hR.mono ?_; rintro e W3 hc; obtain ⟨b, rfl, hc2⟩ := yb_of hc; have HC := hide hc2; clear hc hc2)
          all_goals
            rcases HC.out with ⟨rfl, hJ3, hk3⟩ | ⟨rfl, hJx3⟩
            · have hc3 : W3.cell? ⟨Bn, 0, none⟩ = some (.int .i64 s) := hk3.2.trans hcs
              have HB3 : Hid (Below w0.heap.size w0 W3) := HBL.out.drew.trans hk3.1
              have hWs3 : W.heap.size ≤ W3.heap.size := Nat.le_trans hWs (hZ.out wr.drew W3 hk3)
              have HJ3 := hide hJ3
              clear hk3 hJ3 HC
              gi_wp2
              go_roundw
              case rel => exact ⟨3, _, rfl, by omega, HE.out, HJ3.out, HB3.out, hWs3, hc3⟩
              case measure => simp [intOf]
            · clear HC
              gi_wp2
              refine bodyPost_ret (results_none rfl _ _ _) rfl ?_
              exact ⟨⟨_, rfl⟩, .inr ⟨_, ⟨_, HE.out.symm⟩, hJx3⟩⟩
        · obtain rfl : kk = 3 := by omega
          gi_wp2
          gi_region_with_o (refine hR.mono ?_; rintro e W3 hc; obtain ⟨b, rfl, hc2⟩ := yb_of hc; have HC := hide hc2; clear hc hc2)
          all_goals
            rcases HC.out with ⟨rfl, hJ3, hk3⟩ | ⟨rfl, hJx3⟩
            · have hc3 : W3.cell? ⟨Bn, 0, none⟩ = some (.int .i64 s) := hk3.2.trans hcs
              have HB3 : Hid (Below w0.heap.size w0 W3) := HBL.out.drew.trans hk3.1
              have hWs3 : W.heap.size ≤ W3.heap.size := Nat.le_trans hWs (hZ.out wr.drew W3 hk3)
              have HJ3 := hide hJ3
              clear hk3 hJ3 HC
              gi_wp2
              go_roundw
              case rel => exact ⟨4, _, rfl, by omega, HE.out, HJ3.out, HB3.out, hWs3, hc3⟩
              case measure => simp [intOf]
            · clear HC
              gi_wp2
              refine bodyPost_ret (results_none rfl _ _ _) rfl ?_
              exact ⟨⟨_, rfl⟩, .inr ⟨_, ⟨_, HE.out.symm⟩, hJx3⟩⟩
    · have d1 : decide ((k : Int) < 4) = false := decide_eq_false (by omega)
      have HE : Hid (A = pre) := by
        obtain rfl : k = 4 := by omega
        show _ = _; rw [HAA.out]; exact List.append_nil _
      gi_wp2
      go_end0
      exact ⟨⟨_, rfl⟩, .inl ⟨_, HE.out.symm, HJS.out⟩⟩
end Go.Proofs.YtijdlbanfdhfnaaGreatDoor

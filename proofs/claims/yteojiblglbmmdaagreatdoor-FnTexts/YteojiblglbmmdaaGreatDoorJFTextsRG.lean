/-
  The walks of impl.scan and impl.Lex.
-/
import Derived.Test.YteojiblglbmmdaaGreatDoorJFTextsRF
import Derived.Test.YteojiblglbmmdaaGreatDoorJFTextsSL
namespace Go.Proofs.YteojiblglbmmdaaGreatDoor
open Go.RowKit Go.Shelf

attribute [local go_sem] Oper.semAt_some

set_option maxRecDepth 1000000 in
set_option maxHeartbeats 1000000 in
theorem scan_in (n : Nat) (s : ByteArray) (w : World) :
    CallsIn Fence.wide n Tryz.prog 18 #[.string s] w fun e w' => e = .returned (.func (.func 33) #[] #[.pointer (some ⟨w.heap.size, 0, none⟩)]) ∧ w' = w.alloc (.cells #[.string s] 9) := by
  refine callsIn_of_wp Tryz.func18 rfl trivial ?_ rfl
  simp only [Tryz.ntmps18, List.size_toArray, List.length_cons, List.length_nil, Nat.reduceAdd, Nat.reduceSub, Array.replicate_succ, Array.replicate_zero, List.push_toArray, List.append_toArray, List.nil_append, List.cons_append]
  gi_wp2
  go_ret
  exact ⟨rfl, rfl⟩

theorem scan_stops (n : Nat) (hn : 1 ≤ n) (Bn : Nat) (s : ByteArray) (hs : s.size ≤ 5000) (hok : chk s = (0, 0)) (m : Int) (te1 te2 : TypeId) (pe1 pe2 : Value) (w w0 : World)
    (hBn : w.cell? ⟨Bn, 0, none⟩ = some (.string s)) (hlib : LibOk w0 m te1 te2 pe1 pe2) (hW : Below w0.heap.size w0 w) :
    SeqStopsK Fence.wide n Tryz.prog 33 #[.pointer (some ⟨Bn, 0, none⟩)] encT (KpB w0.heap.size Bn) (fun ys => ys = yl s (s.size + 1) 0) (fun pre => pre <+: yl s (s.size + 1) 0) (yl s (s.size + 1) 0).length w := fun l J Jx W hb hJ _ hY h0 =>
  scan1_in n hn l Bn s hs hok m te1 te2 pe1 pe2 J Jx W w0 hJ hY (by rw [hb.cell (p := ⟨Bn, 0, none⟩) (World.block_lt_of_cell? _ _ hBn)]; exact hBn) hlib (hW.trans (hb.mono hW.size)) h0

/-- The tokens among what is handed on. -/
def tks (l : List Tk) : List (Nat × Nat × Nat) := l.map fun x => (x.1, x.2.1, x.2.2.1)
theorem tks_snoc (l : List Tk) (x : Tk) : tks (l ++ [x]) = tks l ++ [(x.1, x.2.1, x.2.2.1)] := by simp [tks]
theorem tks_len (l : List Tk) : (tks l).length = l.length := by simp [tks]
theorem yl_lex (s : ByteArray) : ∀ f p acc, s.size < p + f → (∀ x ∈ yl s f p, x.2.2.2 = true) → lex s f p acc = (acc ++ tks (yl s f p), 0, 0)
  | 0, p, acc, h, _ => by simp [yl, lex, tks]
  | f + 1, p, acc, h, hall => by
    rw [yl] at hall ⊢
    rw [lex]
    by_cases c : p < s.size
    · rw [if_pos c] at hall ⊢
      rw [if_pos c]
      by_cases c1 : 0 < bl s p
      · rw [if_pos c1] at hall ⊢
        rw [if_pos c1]
        exact yl_lex s f _ acc (by omega) hall
      rw [if_neg c1] at hall ⊢
      rw [if_neg c1]
      by_cases c2 : bl s p < 0
      · rw [if_pos c2] at hall
        exact absurd (hall (0, p, 0, false) (by simp)) (by simp)
      rw [if_neg c2] at hall ⊢
      rw [if_neg c2]
      by_cases c3 : (tok s p).2 = 0
      · rw [if_pos c3] at hall
        exact absurd (hall (0, p, 0, false) (by simp)) (by simp)
      rw [if_neg c3] at hall ⊢
      rw [if_neg c3, yl_lex s f _ _ (by omega) (fun x hx => hall x (by simp [hx]))]
      simp [tks]
    · rw [if_neg c, if_neg c]; simp [tks]
theorem yl_bad (s : ByteArray) : ∀ f p acc (x : Tk), s.size < p + f → x ∈ yl s f p → x.2.2.2 = false → lex s f p acc = ([], 2, x.2.1)
  | 0, p, acc, x, h, hx, _ => by simp [yl] at hx
  | f + 1, p, acc, x, h, hx, hf => by
    rw [yl] at hx
    rw [lex]
    by_cases c : p < s.size
    · rw [if_pos c] at hx ⊢
      by_cases c1 : 0 < bl s p
      · rw [if_pos c1] at hx ⊢
        exact yl_bad s f _ acc x (by omega) hx hf
      rw [if_neg c1] at hx ⊢
      by_cases c2 : bl s p < 0
      · rw [if_pos c2] at hx ⊢
        obtain rfl : x = (0, p, 0, false) := by simpa using hx
        rfl
      rw [if_neg c2] at hx ⊢
      by_cases c3 : (tok s p).2 = 0
      · rw [if_pos c3] at hx ⊢
        obtain rfl : x = (0, p, 0, false) := by simpa using hx
        rfl
      rw [if_neg c3] at hx ⊢
      rcases List.mem_cons.1 hx with e | e
      · rw [e] at hf; simp at hf
      · exact yl_bad s f _ _ x (by omega) e hf
    · rw [if_neg c] at hx; simp at hx
theorem yl_len (s : ByteArray) : ∀ f p, p ≤ s.size → (yl s f p).length ≤ s.size - p + 1 ∧ (p = s.size → yl s f p = [])
  | 0, p, _ => by simp [yl]
  | f + 1, p, h => by
    rw [yl]
    by_cases c : p < s.size
    · rw [if_pos c]
      refine ⟨?_, fun e => by omega⟩
      have hb := bl_le s p c
      have ht := tok_le s p c
      by_cases c1 : 0 < bl s p
      · rw [if_pos c1]
        have := (yl_len s f (p + (bl s p).toNat) (by omega)).1
        omega
      rw [if_neg c1]
      by_cases c2 : bl s p < 0
      · rw [if_pos c2]; simp
      rw [if_neg c2]
      by_cases c3 : (tok s p).2 = 0
      · rw [if_pos c3]; simp
      rw [if_neg c3]
      have := (yl_len s f (p + (tok s p).2) ht).1
      simp only [List.length_cons]
      omega
    · rw [if_neg c]; simp

/-- What a round finds: the tokens so far, the answers as they were. -/
def LexI (w : World) (T : Nat) (s : ByteArray) (pre : List Tk) (W : World) : Prop :=
  ((∀ x ∈ pre, x.2.2.2 = true) ∧ (∃ v, Boxed W T 28 v ∧ W.ownsRow w.heap.size 33 3 v (tks pre).length (tcv (tks pre))) ∧ Boxed W w.heap.size 28 (.slice none 0 0) ∧ Boxed W (w.heap.size + 1) 3 (.int .i64 0) ∧ Boxed W (w.heap.size + 1 + 1) 3 (.int .i64 0) ∧ Boxed W (T + 1) 9 (.string s)) ∧ Below w.heap.size w W
/-- What a round leaves that ends the loop. -/
def LexX (w : World) (c : Code) (pre : List Tk) (W : World) : Prop :=
  (c = .ret ∧ ∃ q x, pre = q ++ [x] ∧ x.2.2.2 = false ∧ Boxed W w.heap.size 28 (.slice none 0 0) ∧ Boxed W (w.heap.size + 1) 3 (.int .i64 2) ∧ Boxed W (w.heap.size + 1 + 1) 3 (.int .i64 (x.2.1 : Nat))) ∧ Below w.heap.size w W

theorem lexI_own (w : World) (T : Nat) (s : ByteArray) (B : Nat) (hB : w.heap.size ≤ B) : OwnFrom B (LexI w T s) := by
  refine OwnFrom.and (Own.from ?_ B) (ownFrom_below (Nat.le_refl _) hB)
  rintro pre X Y row ⟨h1, ⟨v, h2, h3⟩, h4, h5, h6, h7⟩ hg hr
  obtain ⟨v', a, b, _⟩ := holdsRow_own w.heap.size T 28 33 3 (fun pre => (tks pre).length) (fun pre => tcv (tks pre)) (fun _ _ => True) pre X Y row ⟨v, h2, h3, trivial⟩ hg hr
  exact ⟨h1, ⟨v', a, b⟩, box_kept h4 hg hr, box_kept h5 hg hr, box_kept h6 hg hr, box_kept h7 hg hr⟩
theorem lexX_own (w : World) (c : Code) (B : Nat) (hB : w.heap.size ≤ B) : OwnFrom B (LexX w c) := by
  refine OwnFrom.and (Own.from ?_ B) (ownFrom_below (Nat.le_refl _) hB)
  rintro pre X Y row ⟨h1, q, x, h2, h3, h4, h5, h6⟩ hg hr
  exact ⟨h1, q, x, h2, h3, box_kept h4 hg hr, box_kept h5 hg hr, box_kept h6 hg hr⟩

theorem tok_news (W : World) (k a l : Nat) : ∀ j u, (tcv [(k, a, l)])[j]? = some u → (W.alloc (.cells #[.int .i64 (k : Nat), .int .i64 (a : Nat), .int .i64 (l : Nat)] 33)).cell? ((⟨W.heap.size, 0, none⟩ : Addr).add j) = some u := fun j u hj => by
  have e : (⟨W.heap.size, 0, none⟩ : Addr).add j = ⟨W.heap.size, j, none⟩ := by unfold Addr.add; split <;> simp_all
  rw [e]
  refine (cell_fresh W _ _ j).trans ?_
  rw [← hj, ← Array.getElem?_toList]; rfl
/-- Where a round's token lies, and the frame. -/
def LexA (src : Value) (w : World) (T : Nat) (s : ByteArray) (_B : Nat) (x : Tk) (a' : Act) (W : World) : Prop :=
  ∃ Bx, T + 1 < Bx ∧ W.heap[Bx]? = some (.cells #[.int .i64 (x.1 : Nat), .int .i64 (x.2.1 : Nat), .int .i64 (x.2.2.1 : Nat)] 33 (0, 0)) ∧
    a' = { tmps := #[src, undef, .pointer (some ⟨w.heap.size, 0, none⟩), .pointer (some ⟨w.heap.size + 1, 0, none⟩), .pointer (some ⟨w.heap.size + 1 + 1, 0, none⟩), .int .i64 0, .int .i64 0, .pointer (some ⟨T, 0, none⟩), .pointer (some ⟨Bx, 0, none⟩), .bool x.2.2.2, src, .int .i64 s.size, .bool false, .tuple #[.int .i64 0, .int .i64 0], src, .tuple #[.int .i64 0, .int .i64 0], .int .i64 0, .int .i64 0, .int .i64 0, .bool false, undef, undef, src, .string s, .func (.func 33) #[] #[.pointer (some ⟨T + 1, 0, none⟩)], .agg #[.int .i64 (x.1 : Nat), .int .i64 (x.2.1 : Nat), .int .i64 (x.2.2.1 : Nat)], .bool x.2.2.2, undef, undef, undef, undef, undef, undef, undef, undef, undef], defers := [] }
theorem lexA_own (src : Value) (w : World) (T : Nat) (s : ByteArray) (B : Nat) (x : Tk) (a' : Act) : OwnFrom B (fun (_ : Unit) W => LexA src w T s B x a' W) := by
  rintro _ X Y row ⟨Bx, h1, h2, h3⟩ hg hr
  refine ⟨Bx, h1, (hg.block Bx (Array.getElem?_eq_some_iff.1 h2).1 (fun e => ?_)).trans h2, h3⟩
  obtain ⟨_, o, ho, hc⟩ := hr Bx e.symm
  rw [h2] at ho; cases ho; cases hc

set_option maxRecDepth 1000000 in
set_option maxHeartbeats 2000000 in
theorem implLex_good (b off cap : Nat) (s : ByteArray) (w : World) (m : Int) (te1 te2 : TypeId) (pe1 pe2 : Value) (hs : s.size ≤ 5000) (hlib : LibOk w m te1 te2 pe1 pe2) (hc : ∀ j, j < s.size → w.cell? ⟨b, off + j, none⟩ = some (bts s j)) (hg : (chk s).1 = 0) :
    Calls Tryz.prog 9 #[.slice (some ⟨b, off, none⟩) s.size cap] w fun e w' => LexGives w w' e (lexed s) := by
  have H := fun w1 (hb : Below w.heap.size w w1) => implCheck_any b off cap s w1 (by omega) (Utf8Tabs_below hlib.tabs hb) (fun j hj => by rw [hb.cell (p := ⟨b, off + j, none⟩) (World.block_lt_of_cell? _ _ (hc j hj))]; exact hc j hj)
  have hck : chk s = (0, 0) := chkAt_zero s _ _ hg
  rw [pairVal_of hck] at H
  have H' := hide H
  have HC := hide hc
  have HLIB := hide hlib
  have HCK := hide hck
  have HLX : Hid (lexed s = lex s (s.size + 1) 0 []) := by show _ = _; unfold lexed; rw [if_neg (by omega), if_pos hg]
  have t0 : decide ((5000 : Int) < (s.size : Int)) = false := decide_eq_false (by omega)
  have hB0 : Below w.heap.size w (((w.alloc (.cells #[.slice none 0 0] 28)).alloc (.cells #[.int .i64 0] 3)).alloc (.cells #[.int .i64 0] 3)) := (((Below.refl _ w).alloc (Nat.le_refl _) _).alloc (by simp) _).alloc (by simp; omega) _
  have b0 : Boxed (((w.alloc (.cells #[.slice none 0 0] 28)).alloc (.cells #[.int .i64 0] 3)).alloc (.cells #[.int .i64 0] 3)) w.heap.size 28 (.slice none 0 0) := ((Boxed.new w _ _).alloc _).alloc _
  have b1 : Boxed (((w.alloc (.cells #[.slice none 0 0] 28)).alloc (.cells #[.int .i64 0] 3)).alloc (.cells #[.int .i64 0] 3)) (w.heap.size + 1) 3 (.int .i64 0) := by
    have := (Boxed.new (w.alloc (.cells #[.slice none 0 0] 28)) 3 (.int .i64 0)).alloc (.cells #[.int .i64 0] 3)
    rwa [World.size_alloc] at this
  have b2 : Boxed (((w.alloc (.cells #[.slice none 0 0] 28)).alloc (.cells #[.int .i64 0] 3)).alloc (.cells #[.int .i64 0] 3)) (w.heap.size + 1 + 1) 3 (.int .i64 0) := by
    have := Boxed.new ((w.alloc (.cells #[.slice none 0 0] 28)).alloc (.cells #[.int .i64 0] 3)) 3 (.int .i64 0)
    rwa [World.size_alloc, World.size_alloc] at this
  have HB0 := hide hB0
  have Hb0 := hide b0
  have Hb1 := hide b1
  have Hb2 := hide b2
  clear H hck hg hc hlib hB0 b0 b1 b2
  refine (callsIn_wide (n := 3)).1 ?_
  refine callsIn_of_wp_marks Tryz.func9 rfl trivial ?_ rfl
  simp only [Tryz.ntmps9, List.size_toArray, List.length_cons, List.length_nil, Nat.reduceAdd, Nat.reduceSub, Array.replicate_succ, Array.replicate_zero, List.push_toArray, List.append_toArray, List.nil_append, List.cons_append]
  gi_wp2_with fail
  refine ⟨trivial, ?_⟩
  refine (callsIn_wide.2 (H'.out _ HB0.out)).mono ?_
  rintro e w1 ⟨rfl, hb1⟩
  have hB1 := HB0.out.trans (hb1.mono HB0.out.size)
  have c0 := Hb0.out.kept (below_grown hb1) (by simp)
  have c1 := Hb1.out.kept (below_grown hb1) (by simp)
  have c2 := Hb2.out.kept (below_grown hb1) (by simp)
  have hsz : w.heap.size + 1 + 1 + 1 ≤ w1.heap.size := by have := hb1.size; simp at this; omega
  have hcv : ∀ o, (convert 22 9 (.slice (some ⟨b, off, none⟩) s.size cap)).run Tryz.prog (w1.alloc o) = .ok (.string s) (w1.alloc o) := fun o => toStr_run s (w1.alloc o) b off cap (fun j hj => by
    rw [(hB1.alloc hB1.size o).cell (p := ⟨b, off + j, none⟩) (World.block_lt_of_cell? _ _ (HC.out j hj))]; exact HC.out j hj)
  clear hb1 HB0 Hb0 Hb1 Hb2 H'
  have HB1 := hide hB1
  have HC0 := hide c0
  have HC1 := hide c1
  have HC2 := hide c2
  clear hB1 c0 c1 c2
  gi_wp2_with (refine ⟨trivial, ?_⟩; gi_at_call 18; refine (scan_in _ _ _).mono ?_; rintro e w' ⟨rfl, rfl⟩)
  clear hcv
  have hBW : Below w.heap.size w ((w1.alloc (.cells #[.slice none 0 0] 28)).alloc (.cells #[.string s] 9)) := (HB1.out.alloc HB1.out.size _).alloc (by have := HB1.out.size; simp; omega) _
  have bT : Boxed ((w1.alloc (.cells #[.slice none 0 0] 28)).alloc (.cells #[.string s] 9)) w1.heap.size 28 (.slice none 0 0) := (Boxed.new w1 _ _).alloc _
  have bN : Boxed ((w1.alloc (.cells #[.slice none 0 0] 28)).alloc (.cells #[.string s] 9)) (w1.heap.size + 1) 9 (.string s) := by
    have := Boxed.new (w1.alloc (.cells #[.slice none 0 0] 28)) 9 (.string s)
    rwa [World.size_alloc] at this
  have HI0 : Hid (LexI w w1.heap.size s [] ((w1.alloc (.cells #[.slice none 0 0] 28)).alloc (.cells #[.string s] 9))) := ⟨⟨(fun x hx => absurd hx (by simp)), ⟨_, bT, World.ownsRow_nil _ _ _ _⟩, (HC0.out.alloc _).alloc _, (HC1.out.alloc _).alloc _, (HC2.out.alloc _).alloc _, bN⟩, hBW⟩
  have HBW := hide hBW
  have hWz : ((w1.alloc (.cells #[.slice none 0 0] 28)).alloc (.cells #[.string s] 9)).heap.size = w1.heap.size + 2 := by simp
  have HBN := hide bN.cell
  clear hBW bT bN HC0 HC1 HC2
  obtain ⟨WL, hWL⟩ : ∃ WL, (w1.alloc (.cells #[.slice none 0 0] 28)).alloc (.cells #[.string s] 9) = WL := ⟨_, rfl⟩
  rw [hWL] at HI0 HBW hWz HBN ⊢
  clear hWL
  obtain ⟨T, hT⟩ : ∃ T, w1.heap.size = T := ⟨_, rfl⟩
  rw [hT] at hsz HI0 hWz HBN ⊢
  have hTW : w.heap.size ≤ WL.heap.size := by omega
  have hTW2 : T + 1 < WL.heap.size := by omega
  have hylen := (yl_len s (s.size + 1) 0 (Nat.zero_le _)).1
  clear hT HB1 hWz
  refine wpIn_rangeFunc_ownH rfl (by omega) (gf := 33) (lb := #[.pointer (some ⟨T + 1, 0, none⟩)]) rfl trivial (enters_of Tryz.func33 (by kernel_rfl) rfl)
    (scan_stops (3 - 1) (by omega) (T + 1) s hs HCK.out m te1 te2 pe1 pe2 WL w HBN.out HLIB.out HBW.out) kpB_t (kpB_b hTW hTW2) (Below.refl _ _) (fun _ => rfl)
    (LexI w T s) (LexX w) (lexI_own w T s _ hTW) (fun c => lexX_own w c _ hTW) HI0.out
    (LexA (.slice (some ⟨b, off, none⟩) s.size cap) w T s WL.heap.size) (fun x a' => lexA_own _ w T s WL.heap.size x a') ?assign ?body ?done ?stop
  case assign =>
    intro l pre x W K hi hK
    have HI := hide hi
    have HK := hide hK
    have hWz : T + 1 < W.heap.size := hi.1.2.2.2.2.2.lt
    clear hi hK
    obtain ⟨xk, xa, xl, xo⟩ := x
    dsimp only [encT]
    gi_wp2
    refine HK.out _ _ ((KeepsOthers.alloc _ _).from _) ⟨(Below.refl _ W).alloc (HI.out.2.size) _, ((Below.refl W.heap.size W).alloc (Nat.le_refl _) _).cell (p := ⟨T + 1, 0, none⟩) hWz⟩ ((lexI_own w T s w.heap.size (Nat.le_refl _)).alloc _ HI.out) ⟨W.heap.size, hWz, World.alloc_heap_new W _, rfl⟩
  case body =>
    rintro l pre x a' W hl ⟨r, hr⟩ ⟨⟨hall, ⟨v, hv, hrow⟩, hR0, hR1, hR2, hbN⟩, hB⟩ ⟨Bx, hBx, hx, rfl⟩ hlen
    obtain ⟨xk, xa, xl, xo⟩ := x
    have x0 : W.cell? ⟨Bx, 0, none⟩ = some (.int .i64 (xk : Nat)) := by simp [World.cell?, hx]
    have x1 : W.cell? ⟨Bx, 1, none⟩ = some (.int .i64 (xa : Nat)) := by simp [World.cell?, hx]
    have x2 : W.cell? ⟨Bx, 2, none⟩ = some (.int .i64 (xl : Nat)) := by simp [World.cell?, hx]
    have HALL := hide hall
    have HV := hide hv
    have HROW := hide hrow
    have HR0 := hide hR0
    have HR1 := hide hR1
    have HR2 := hide hR2
    have HBX := hide hbN
    have HB := hide hB
    cases xo with
    | false =>
      have r0c := hR0.cell
      have r0f := hR0.frozen
      have r1c := hR1.cell
      have r1f := hR1.frozen
      have r2c := hR2.cell
      have r2f := hR2.frozen
      clear hall hv hrow hR0 hR1 hR2 hbN hB hr hx
      have hmx : Tryz.prog.follows .mixedOrders = true := by kernel_rfl
      have HPOST : Hid (KeepsFrom WL.heap.size W (((W.setCell ⟨w.heap.size, 0, none⟩ (.slice none 0 0)).setCell ⟨w.heap.size + 1, 0, none⟩ (.int .i64 2)).setCell ⟨w.heap.size + 1 + 1, 0, none⟩ (.int .i64 (xa : Nat))).drew ∧ LexX w .ret (pre ++ [(xk, xa, xl, false)]) (((W.setCell ⟨w.heap.size, 0, none⟩ (.slice none 0 0)).setCell ⟨w.heap.size + 1, 0, none⟩ (.int .i64 2)).setCell ⟨w.heap.size + 1 + 1, 0, none⟩ (.int .i64 (xa : Nat))).drew) := by
        refine ⟨((((KeepsOthers.setCell _ _ _).trans (KeepsOthers.setCell _ _ _)).trans (KeepsOthers.setCell _ _ _)).trans (KeepsOthers.drew _)).from _, ⟨rfl, pre, _, rfl, rfl, ?_, ?_, ?_⟩, ?_⟩
        · exact ((HR0.out.set _).other (by omega) _).other (by omega) _
        · exact ((HR1.out.other (by omega) _).set _).other (by omega) _
        · exact ((HR2.out.other (by omega) _).other (by omega) _).set _
        · exact (((HB.out.setCell (p := ⟨w.heap.size, 0, none⟩) (Nat.le_refl _) _).setCell (p := ⟨w.heap.size + 1, 0, none⟩) (by simp) _).setCell (p := ⟨w.heap.size + 1 + 1, 0, none⟩) (by simp; omega) _).drew
      gi_wp2
      gi_region_o
      all_goals gi_wp2
      all_goals exact HPOST.out
    | true =>
      have hvc := hv.cell
      have hvf := hv.frozen
      have hl2 := tks_len pre
      obtain ⟨i0, hi, hz0, hz1, hz2⟩ := info_parts Tryz.infoTok
      clear hall hR0 hR1 hR2 hbN hB hr hx
      have hm1 : (tks pre).length + 1 ≤ maxLen := by unfold maxLen; omega
      have hm2 : ((tks pre).length + 1) * 24 ≤ 140737488355328 := by omega
      have hWb : w.heap.size ≤ (W.alloc (.cells #[.int .i64 (xk : Nat), .int .i64 (xa : Nat), .int .i64 (xl : Nat)] 33)).heap.size := by have := HB.out.size; simp; omega
      clear hv hrow hl2
      gi_wp2_with (gi_at_builtin; refine wpListIn_append_own _ rfl _ _ 28 rfl w.heap.size 33 i0 _ 3 24 Tryz.underlying28 hi hz0 hz1 hz2 rfl (by decide) _ _ _ rfl (HROW.out.alloc _) ⟨W.heap.size, 0, none⟩ 1 1 (tcv [(xk, xa, xl)]) rfl rfl (tok_news W xk xa xl) (tcv_one _) hm1 hm2 hWb ?_; intro v' w4 hown' hgrow _; obtain ⟨g', cap', rfl⟩ := ownsRow_succ hown'; obtain ⟨hv1, hv2, hr2, hk2, hb2⟩ := HV.out.appended (by decide) HROW.out HB.out.size (by omega) hown' hgrow; have hc1 := hv1.cell; have hf1 := hv1.frozen; have HV2 := hide hv2; have HR2' := hide hr2; have HK2 := hide hk2; have HB2 := hide hb2; have HG := hide hgrow; clear hv1 hv2 hr2 hk2 hb2 hown' hgrow hvc hvf)
      have keep : ∀ {B : Nat} {t : TypeId} {u : Value}, Boxed W B t u → t ≠ 33 → B ≠ T → Boxed (w4.setCell ⟨T, 0, none⟩ (.slice (some ⟨g', 0, none⟩) ((tks pre).length + 1) cap')) B t u := fun h hne hT => ((h.alloc _).kept HG.out (h.not_row hne HROW.out)).other hT _
      have hbn := keep HBX.out (by decide) (by omega)
      refine ⟨HK2.out.from _, ⟨HB2.out, by rw [hbn.cell, HBX.out.cell]⟩, ⟨?_, ⟨_, HV2.out, ?_⟩, keep HR0.out (by decide) (by omega), keep HR1.out (by decide) (by omega), keep HR2.out (by decide) (by omega), hbn⟩, HB.out.trans HB2.out⟩
      · intro y hy
        rcases List.mem_append.1 hy with h | h
        · exact HALL.out y h
        · rw [List.mem_singleton.1 h]
      · have e := HR2'.out
        rw [← tcv_append] at e
        rw [tks_snoc, List.length_append]
        exact e
  case done =>
    rintro D ys W hD rfl ⟨⟨hall, ⟨v, hv, hrow⟩, hR0, hR1, hR2, hbN⟩, hB⟩ hK
    obtain ⟨a0, n0, c0, rfl⟩ : ∃ a n c, v = .slice a n c := by
      rcases hrow.2 with ⟨h, _⟩ | ⟨g, c, cur, h, _⟩
      · exact ⟨_, _, _, h⟩
      · exact ⟨_, _, _, h⟩
    have HROW := hide hrow
    have HR0 := hide hR0
    have HR1 := hide hR1
    have HR2 := hide hR2
    have HB := hide hB
    have HKD := hide hK
    have hvc := hv.cell
    have HL : Hid (lexed s = (tks (yl s (s.size + 1) 0), 0, 0)) := by show _ = _; rw [HLX.out, yl_lex s _ 0 [] (by omega) hall, List.nil_append]
    have r0c := hR0.cell
    have r0f := hR0.frozen
    have r1c := hR1.cell
    have r1f := hR1.frozen
    have r2c := hR2.cell
    have r2f := hR2.frozen
    have hmx : Tryz.prog.follows .mixedOrders = true := by kernel_rfl
    clear hv hrow hR0 hR1 hR2 hbN hB hK hall
    gi_wp2
    have k0 := HR0.out.set (.slice a0 n0 c0)
    have k1 := (HR1.out.other (B' := w.heap.size) (by omega) (.slice a0 n0 c0))
    have k2 := (HR2.out.other (B' := w.heap.size) (by omega) (.slice a0 n0 c0))
    have o1 := HROW.out.kept (grownBy_setCell' W w.heap.size (.slice a0 n0 c0)) (.inr (HR0.out.not_row (by decide) HROW.out).symm)
    have o2 := o1.kept (grownBy_setCell' _ (w.heap.size + 1) (.int .i64 0)) (.inr (k1.not_row (by decide) o1).symm)
    have j0 := k0.other (B' := w.heap.size + 1) (by omega) (.int .i64 0)
    have j1 := k1.set (.int .i64 0)
    have j2 := k2.other (B' := w.heap.size + 1) (by omega) (.int .i64 0)
    have o3 := o2.kept (grownBy_setCell' _ (w.heap.size + 1 + 1) (.int .i64 0)) (.inr (j2.not_row (by decide) o2).symm)
    have i0 := j0.other (B' := w.heap.size + 1 + 1) (by omega) (.int .i64 0)
    have i1 := j1.other (B' := w.heap.size + 1 + 1) (by omega) (.int .i64 0)
    have i2 := j2.set (.int .i64 0)
    have hBX := ((HB.out.setCell (p := ⟨w.heap.size, 0, none⟩) (Nat.le_refl _) (.slice a0 n0 c0)).setCell (p := ⟨w.heap.size + 1, 0, none⟩) (by simp) (.int .i64 0)).setCell (p := ⟨w.heap.size + 1 + 1, 0, none⟩) (by simp; omega) (.int .i64 0)
    have hKX := (((KeepsOthers.setCell W ⟨w.heap.size, 0, none⟩ (.slice a0 n0 c0)).trans (KeepsOthers.setCell _ ⟨w.heap.size + 1, 0, none⟩ (.int .i64 0))).trans (KeepsOthers.setCell _ ⟨w.heap.size + 1 + 1, 0, none⟩ (.int .i64 0))).same D _ HKD.out rfl
    generalize ((W.setCell ⟨w.heap.size, 0, none⟩ (.slice a0 n0 c0)).setCell ⟨w.heap.size + 1, 0, none⟩ (.int .i64 0)).setCell ⟨w.heap.size + 1 + 1, 0, none⟩ (.int .i64 0) = X at *
    have hrD : ∀ r, some D = some r → ∃ o : Obj, X.heap[r]? = some o ∧ o.isCells = false := fun r e => by cases e; exact ⟨_, hKX, rfl⟩
    have y0 := (box_kept i0 (grownBy_putObj' X D (.deferred none)) hrD).cell
    have y1 := (box_kept i1 (grownBy_putObj' X D (.deferred none)) hrD).cell
    have y2 := (box_kept i2 (grownBy_putObj' X D (.deferred none)) hrD).cell
    refine ⟨by simp, .inl ⟨_, _, rfl, run_takeDeferred hKX, ?_⟩⟩
    refine ⟨.tuple #[.slice a0 n0 c0, .int .i64 0, .int .i64 0], ?_, ?_⟩
    · simp [results, Tryz.f9, go_sem, y0, y1, y2]
    · exact ⟨_, by rw [HL.out]; rfl, by rw [HL.out]; exact ownsRow_putObj o3 _ hKX rfl, hBX.trans (belowK_b (w := w) (Nat.le_refl _) X D _ _ (by omega) hKX rfl rfl)⟩
  case stop =>
    rintro D c pre W hD hpre ⟨⟨rfl, q, x, rfl, hx, hR0, hR1, hR2⟩, hB⟩ hK
    have HL : Hid (lexed s = ([], 2, x.2.1)) := by show _ = _; rw [HLX.out]; exact yl_bad s _ 0 [] x (by omega) (hpre.subset (by simp)) hx
    gi_wp2
    have hrD : ∀ r, some D = some r → ∃ o : Obj, W.heap[r]? = some o ∧ o.isCells = false := fun r e => by cases e; exact ⟨_, hK, rfl⟩
    have y0 := (box_kept hR0 (grownBy_putObj' W D (.deferred none)) hrD).cell
    have y1 := (box_kept hR1 (grownBy_putObj' W D (.deferred none)) hrD).cell
    have y2 := (box_kept hR2 (grownBy_putObj' W D (.deferred none)) hrD).cell
    refine ⟨by simp, .inl ⟨_, _, rfl, run_takeDeferred hK, ?_⟩⟩
    refine ⟨.tuple #[.slice none 0 0, .int .i64 2, .int .i64 (x.2.1 : Nat)], ?_, ?_⟩
    · simp [results, Tryz.f9, go_sem, y0, y1, y2]
    · exact lexGives_nil HL.out (hB.trans (belowK_b (w := w) (Nat.le_refl _) W D _ _ (by omega) hK rfl rfl))
end Go.Proofs.YteojiblglbmmdaaGreatDoor

/-
  impl's lay: an area's grounds are changed.
-/
import Derived.Test.YtijdlbanfdhfnaaGreatDoorJDnIAF
import Derived.Test.YtijdlbanfdhfnaaGreatDoorJDnIAF
import Derived.Test.YtijdlbanfdhfnaaGreatDoorJDnSD3
import Derived.Test.YtijdlbanfdhfnaaGreatDoorJDnIAF
import Derived.Sort.QuietIn
import Derived.RangeFuncWrites
import Derived.Maps.OwnIn
import Derived.BigRegionIn
namespace Go.Proofs.YtijdlbanfdhfnaaGreatDoor
open Go.RowKit
attribute [local go_sem] Oper.semAt_some

theorem cel_put {W : World} {l g : Nat} {t : TypeId} {cs : Array Value} {fr : Nat × Nat} {o o' : Obj} (h : W.heap[g]? = some (.cells cs t fr)) (ho : W.heap[l]? = some o) (hc : o.isCells = false) : (W.putObj l o').heap[g]? = some (.cells cs t fr) := by
  refine (World.putObj_heap_other (fun e => ?_)).trans h
  subst e
  rw [h] at ho
  cases ho
  cases hc
theorem FlI.keep {w w' : World} {F cb cc M mn : Nat} {f : Flo} {vt : Value} {ns : List (Tg × Value)} (h : FlI w F cb cc M mn f vt ns) (hk : ∀ {g : Nat} {t : TypeId} {cs : Array Value} {fr : Nat × Nat}, w.heap[g]? = some (.cells cs t fr) → w'.heap[g]? = some (.cells cs t fr)) (hm : w'.heap[M]? = w.heap[M]?) : FlI w' F cb cc M mn f vt ns :=
  ⟨hk h.blk, h.ce.keep fun _ q => hk q, h.mp.keep hm, h.ml, own_typed h.tg fun _ _ q => hk q, fun p hp => (h.tn p hp).keep fun q => hk q, h.ts, h.nd, h.nf, h.lc, h.lm⟩
/-- A value of four cells. -/
def gr4 (f : Flo) (c : Nat) : Value := .agg #[grv f c 0, grv f c 1, grv f c 2, grv f c 3]
theorem grv_other {d : Dc} {f : Flo} {x c : Nat} (h : x ≠ c) (i : Nat) : grv (lay1 d f c) x i = grv f x i := by
  have h3 := (lay1_same d f c).2.2.1
  have hw : (lay1 d f c).wall x = f.wall x ∧ (lay1 d f c).cost x = f.cost x ∧ (lay1 d f c).ways x = f.ways x := by
    unfold lay1
    split
    · exact ⟨by show (if x = c then true else f.wall x) = _; rw [if_neg h], rfl, rfl⟩
    split
    · exact ⟨by show (if x = c then false else f.wall x) = _; rw [if_neg h], rfl, rfl⟩
    split
    · exact ⟨rfl, by show (if x = c then d.cost else f.cost x) = _; rw [if_neg h], rfl⟩
    · exact ⟨rfl, rfl, by funext k; show (if x = c then _ else f.ways x k) = _; rw [if_neg h]⟩
  match i with
  | 0 => show Value.bool _ = .bool _; rw [hw.1]
  | 1 => show Value.int _ _ = .int _ _; rw [hw.2.1]
  | 2 => show Value.int _ (smW _) = .int _ (smW _); rw [hw.2.2]
  | _ + 3 => show Value.bool _ = .bool _; rw [h3]
/-- A cell of an area, as a value. -/
def enL (L : List Int) (k : Nat) : Value := .int .i64 (L.getD k 0)
/-- What a round of lay finds. -/
structure LyR (w : World) (F cb cc M mn : Nat) (d : Dc) (f : Flo) (vt : Value) (ns : List (Tg × Value)) (B FB : Nat) (cv : Value) (a7 : Option Addr) (n7 c7 : Nat) (L : List Int) (k : Nat) (W : World) : Prop where
  fl : FlI W F cb cc M mn (layN d f (L.take k)) vt ns
  b0 : Blk W B 54 #[.pointer (some ⟨F, 0, none⟩)]
  b2 : Blk W (B + 1 + 1) 81 #[cv]
  fb : Blk W FB 54 #[.pointer (some ⟨F, 0, none⟩)]
  db : Blk W (FB + 1) 42 #[.int .i64 d.kind, .int .i64 d.x1, .int .i64 d.y1, .int .i64 d.x2, .int .i64 d.y2, .int .i64 d.dir, .int .i64 d.cost, .slice a7 n7 c7, .int .i64 d.node]
  kp : KpC cb w W
  mz : M < w.heap.size

theorem LyR.keep {w : World} {F cb cc M mn : Nat} {d : Dc} {f : Flo} {vt : Value} {ns : List (Tg × Value)} {B FB : Nat} {cv : Value} {a7 : Option Addr} {n7 c7 : Nat} {L : List Int} {k : Nat} {W W' : World} (h : LyR w F cb cc M mn d f vt ns B FB cv a7 n7 c7 L k W) (hk : ∀ {g : Nat} {t : TypeId} {cs : Array Value} {fr : Nat × Nat}, W.heap[g]? = some (.cells cs t fr) → W'.heap[g]? = some (.cells cs t fr)) (hm : W'.heap[M]? = W.heap[M]?) (hw : KpC cb w W') : LyR w F cb cc M mn d f vt ns B FB cv a7 n7 c7 L k W' :=
  ⟨h.fl.keep hk hm, hk h.b0, hk h.b2, hk h.fb, hk h.db, hw, h.mz⟩
set_option maxRecDepth 1000000 in
set_option maxHeartbeats 8000000 in
theorem lay_any (F cb cc M mn : Nat) (f : Flo) (vt : Value) (ns : List (Tg × Value)) (d : Dc) (v7 : Value) (g : Nat) (cx : Array Value) (w : World) (h7 : ∃ a n c, v7 = .slice a n c) (hf : FloOk f) (hm : FlI w F cb cc M mn f vt ns)
    (eg : ∀ args w, (callFunc g args).run Tryz.prog w = .ok (.enter g args) w)
    (hch : ∀ (f' : Flo) (c : Nat) (V : World), c < f.w * f.h → KpC cb w V → (∀ k, 1 ≤ f'.cost k ∧ f'.cost k ≤ 9) → Calls Tryz.prog g (#[gr4 f' c] ++ cx) V fun e V' => e = .returned (gr4 (lay1 d f' c) c) ∧ Below V.heap.size V V')
    (hcz : d.kind = 13 → 1 ≤ d.cost ∧ d.cost ≤ 9) :
    Calls Tryz.prog 50 #[.pointer (some ⟨F, 0, none⟩), dcagg d v7, .func (.func g) #[] cx] w fun e w' => ∃ b : Int, e = .returned (.int .i64 b) ∧ (b = 0 ∨ b = 8) ∧ (b = 0 ↔ inF f.w f.h d) ∧ (b = 0 → FlI w' F cb cc M mn (layN d f (arL f.w d)) vt ns) ∧ KpC cb w w' := by
  obtain ⟨a7, n7, c7, rfl⟩ := h7
  have HM := hide hm
  have HFO := hide hf
  have HCH := hide hch
  have HCZ := hide hcz
  have HL0 : Hid (cb < w.heap.size ∧ F < w.heap.size ∧ M < w.heap.size) := ⟨hm.ce.lt, hm.blk.lt, hm.mp.lt⟩
  have f0 := hm.blk.cell 0
  have f1 := hm.blk.cell 1
  simp only [List.getElem?_toArray, List.getElem?_cons_succ, List.getElem?_cons_zero] at f0 f1
  have HFT := hide (fun V (hV : Below w.heap.size w V) => fits_any F f.w f.h d (.slice a7 n7 c7) V ⟨_, _, _, rfl⟩ (cell_kept f0 hV) (cell_kept f1 hV))
  unfold dcagg at HFT ⊢
  obtain ⟨W3, hW3⟩ : ∃ W, ((w.alloc (.cells #[.pointer (some ⟨F, 0, none⟩)] 54)).alloc (.cells #[.int .i64 d.kind, .int .i64 d.x1, .int .i64 d.y1, .int .i64 d.x2, .int .i64 d.y2, .int .i64 d.dir, .int .i64 d.cost, .slice a7 n7 c7, .int .i64 d.node] 42)).alloc (.cells #[.func (.func g) #[] cx] 81) = W := ⟨_, rfl⟩
  have hB3 : Below w.heap.size w W3 := by rw [← hW3]; exact (((Below.refl _ w).alloc (Nat.le_refl _) _).alloc (by simp) _).alloc (by simp; omega) _
  have hb0 : Blk W3 w.heap.size 54 #[.pointer (some ⟨F, 0, none⟩)] := by rw [← hW3]; exact ((Blk.new _ _ _).alloc _).alloc _
  have hb1 : Blk W3 (w.heap.size + 1) 42 #[.int .i64 d.kind, .int .i64 d.x1, .int .i64 d.y1, .int .i64 d.x2, .int .i64 d.y2, .int .i64 d.dir, .int .i64 d.cost, .slice a7 n7 c7, .int .i64 d.node] := by
    rw [← hW3]
    have h := (Blk.new (w.alloc (.cells #[.pointer (some ⟨F, 0, none⟩)] 54)) 42 #[.int .i64 d.kind, .int .i64 d.x1, .int .i64 d.y1, .int .i64 d.x2, .int .i64 d.y2, .int .i64 d.dir, .int .i64 d.cost, .slice a7 n7 c7, .int .i64 d.node]).alloc (.cells #[.func (.func g) #[] cx] 81)
    rwa [World.size_alloc] at h
  have hb2 : Blk W3 (w.heap.size + 1 + 1) 81 #[.func (.func g) #[] cx] := by
    rw [← hW3]
    have h := Blk.new ((w.alloc (.cells #[.pointer (some ⟨F, 0, none⟩)] 54)).alloc (.cells #[.int .i64 d.kind, .int .i64 d.x1, .int .i64 d.y1, .int .i64 d.x2, .int .i64 d.y2, .int .i64 d.dir, .int .i64 d.cost, .slice a7 n7 c7, .int .i64 d.node] 42)) 81 #[.func (.func g) #[] cx]
    rwa [World.size_alloc, World.size_alloc] at h
  have x0 := hb0.cell 0
  have z0 := hb1.cell 0
  have z1 := hb1.cell 1
  have z2 := hb1.cell 2
  have z3 := hb1.cell 3
  have z4 := hb1.cell 4
  have z5 := hb1.cell 5
  have z6 := hb1.cell 6
  have z7 := hb1.cell 7
  have z8 := hb1.cell 8
  have x2 := hb2.cell 0
  simp only [List.getElem?_toArray, List.getElem?_cons_succ, List.getElem?_cons_zero] at x0 x2 z0 z1 z2 z3 z4 z5 z6 z7 z8
  have HB3 := hide hB3
  have HB0 := hide hb0
  have HB1 := hide hb1
  have HB2 := hide hb2
  have hW := hW3
  clear hf hm hch hcz f0 f1 hB3 hb0 hb1 hb2 hW3
  refine (callsIn_wide (n := 3)).1 ?_
  refine callsIn_of_wp_marks Tryz.func50 rfl trivial ?_ rfl
  simp only [Tryz.ntmps50, List.size_toArray, List.length_cons, List.length_nil, Nat.reduceAdd, Nat.reduceSub, Array.replicate_succ, Array.replicate_zero, List.push_toArray, List.append_toArray, List.nil_append, List.cons_append]
  gi_wp2_with fail
  refine ⟨trivial, (callsIn_wide.2 (HFT.out _ HB3.out)).mono ?_⟩
  rintro e w4 ⟨rfl, hb4⟩
  have HIN := hide (inF_iff f.w f.h d)
  obtain ⟨bb, hbb⟩ : ∃ b, (insd (f.w : Nat) (f.h : Nat) d.x1 d.y1 && insd (f.w : Nat) (f.h : Nat) d.x2 d.y2) = b := ⟨_, rfl⟩
  rw [hbb] at HIN ⊢
  have HB4 : Hid (Below w.heap.size w w4) := HB3.out.trans (hb4.mono HB3.out.size)
  have HC0 := hide (HB0.out.below hb4)
  have HC1 := hide (HB1.out.below hb4)
  have HC2 := hide (HB2.out.below hb4)
  have HZ4 : Hid (w.heap.size + 1 + 1 + 1 ≤ w4.heap.size) := by have h1 := HC2.out.lt; exact h1
  have x0 := HC0.out.cell 0
  have z0 := HC1.out.cell 0
  have z1 := HC1.out.cell 1
  have z2 := HC1.out.cell 2
  have z3 := HC1.out.cell 3
  have z4 := HC1.out.cell 4
  have z5 := HC1.out.cell 5
  have z6 := HC1.out.cell 6
  have z7 := HC1.out.cell 7
  have z8 := HC1.out.cell 8
  simp only [List.getElem?_toArray, List.getElem?_cons_succ, List.getElem?_cons_zero] at x0 z0 z1 z2 z3 z4 z5 z6 z7 z8
  clear hbb hb4 HB0 HB1 HB2 HB3 hW
  cases bb with
  | false =>
    have HN : Hid (¬ inF f.w f.h d) := fun h => by have := HIN.out.2 h; cases this
    gi_wp2_with fail
    exact ⟨_, results_tmp rfl _ _ _, 8, rfl, .inr rfl, ⟨fun h => by omega, fun h => absurd h HN.out⟩, fun h => by omega, KpC.of_below HB4.out⟩
  | true =>
    have HI := hide (HIN.out.1 rfl)
    clear HIN
    gi_wp2_with (refine ⟨trivial, ?_⟩; gi_at_call 71; refine (area_in _ _ _ _ _ _ _).mono ?_; rintro e w' ⟨rfl, rfl⟩)
    obtain ⟨FB, hFB⟩ : ∃ b, w4.heap.size = b := ⟨_, rfl⟩
    obtain ⟨W5, hW5⟩ : ∃ W, (w4.alloc (.cells #[.pointer (some ⟨F, 0, none⟩)] 54)).alloc (.cells #[.int .i64 d.kind, .int .i64 d.x1, .int .i64 d.y1, .int .i64 d.x2, .int .i64 d.y2, .int .i64 d.dir, .int .i64 d.cost, .slice a7 n7 c7, .int .i64 d.node] 42) = W := ⟨_, rfl⟩
    have hb45 : Below w4.heap.size w4 W5 := by rw [← hW5]; exact ((Below.refl _ w4).alloc (Nat.le_refl _) _).alloc (by simp) _
    obtain ⟨L, hL⟩ : ∃ L, arL f.w d = L := ⟨_, rfl⟩
    have HLI : Hid (∀ c ∈ L, 0 ≤ c ∧ c < ((f.w * f.h : Nat) : Int)) := by rw [← hL]; exact arL_in HI.out
    have HI0 : Hid (LyR w F cb cc M mn d f vt ns w.heap.size FB (.func (.func g) #[] cx) a7 n7 c7 L 0 W5) := by
      refine ⟨(HM.out.below HB4.out).below hb45, HC0.out.below hb45, HC2.out.below hb45, ?_, ?_, KpC.of_below (HB4.out.trans (hb45.mono HB4.out.size)), HL0.out.2.2⟩
      · rw [← hW5, ← hFB]; exact (Blk.new _ _ _).alloc _
      · rw [← hW5, ← hFB]
        have h := Blk.new (w4.alloc (.cells #[.pointer (some ⟨F, 0, none⟩)] 54)) 42 #[.int .i64 d.kind, .int .i64 d.x1, .int .i64 d.y1, .int .i64 d.x2, .int .i64 d.y2, .int .i64 d.dir, .int .i64 d.cost, .slice a7 n7 c7, .int .i64 d.node]
        rwa [World.size_alloc] at h
    have HZ5 : Hid (w.heap.size ≤ W5.heap.size) := by have h1 := hb45.size; have h2 := HZ4.out; show _ ≤ _; omega
    have HLL := hide hL
    have HFBZ : Hid (w.heap.size + 1 + 1 + 1 ≤ FB) := by rw [← hFB]; exact HZ4.out
    rw [hW5, hFB]
    clear hFB hW5 hb45 hL x0 z0 z1 z2 z3 z4 z5 z6 z7 z8 HC0 HC1 HC2 HZ4 HB4 HM
    refine wpIn_rangeFunc_num rfl (by omega) (gf := 82) (lb := #[.pointer (some ⟨FB + 1, 0, none⟩), .pointer (some ⟨FB, 0, none⟩)]) rfl trivial (enters_of Tryz.func82 (by kernel_rfl) rfl)
      (enc := enL L) rfl L.length (LyR w F cb cc M mn d f vt ns w.heap.size FB (.func (.func g) #[] cx) a7 n7 c7 L)
      (fun {k W l o o'} hl ho hc hI => hI.keep (fun q => cel_put q ho hc) (World.putObj_heap_other (by have h1 := HZ5.out; have h2 := HL0.out; omega)) (hI.kp.put (by have h1 := HZ5.out; omega)))
      (fun k W o hI => hI.keep (fun q => cel_below q ((Below.refl _ W).alloc (Nat.le_refl _) _)) (Below.heap_alloc _ _ _ hI.fl.mp.lt) (hI.kp.trans (KpC.of_below ((Below.refl _ W).alloc (Nat.le_refl _) _)))) HI0.out ?seq (fun k => { tmps := #[.pointer (some ⟨F, 0, none⟩), .agg #[.int .i64 d.kind, .int .i64 d.x1, .int .i64 d.y1, .int .i64 d.x2, .int .i64 d.y2, .int .i64 d.dir, .int .i64 d.cost, .slice a7 n7 c7, .int .i64 d.node], .func (.func g) #[] cx, .pointer (some ⟨w.heap.size, 0, none⟩), .pointer (some ⟨w.heap.size + 1, 0, none⟩), .pointer (some ⟨w.heap.size + 1 + 1, 0, none⟩), .int .i64 0, enL L k, .pointer (some ⟨F, 0, none⟩), .agg #[.int .i64 d.kind, .int .i64 d.x1, .int .i64 d.y1, .int .i64 d.x2, .int .i64 d.y2, .int .i64 d.dir, .int .i64 d.cost, .slice a7 n7 c7, .int .i64 d.node], .bool true, .bool false, .pointer (some ⟨F, 0, none⟩), .agg #[.int .i64 d.kind, .int .i64 d.x1, .int .i64 d.y1, .int .i64 d.x2, .int .i64 d.y2, .int .i64 d.dir, .int .i64 d.cost, .slice a7 n7 c7, .int .i64 d.node], .func (.func 82) #[] #[.pointer (some ⟨FB + 1, 0, none⟩), .pointer (some ⟨FB, 0, none⟩)], enL L k, undef, undef, undef, undef, undef, undef, undef, undef, undef, undef, undef, undef, undef, undef, undef], defers := [] }) ?assign ?body ?done
    case seq =>
      intro l Rd W hz hkeep hY hbW hI hRd
      have key := area1_in (3 - 1) (by omega) l (FB + 1) FB F f.w f.h d (fun k W => LyR w F cb cc M mn d f vt ns w.heap.size FB (.func (.func g) #[] cx) a7 n7 c7 L k W ∧ Rd W) W HFO.out.w1 HFO.out.h1 HI.out (fun k V h => by
        have h1 := h.1.db
        have h2 := h.1.fb.cell 0
        have h3 := h.1.fl.blk.cell 0
        rw [(layN_same d (L.take k) f).1] at h3
        exact ⟨by simpa using h1.cell 1, by simpa using h1.cell 2, by simpa using h1.cell 3, by simpa using h1.cell 4, by simpa using h2, by simpa using h3⟩) (fun k W1 hk h => by
        rw [show arL f.w d = L from HLL.out] at hk ⊢
        exact hY k W1 hk h.1 h.2) ⟨hI, hRd⟩
      rw [show arL f.w d = L from HLL.out] at key
      exact key
    case assign =>
      intro l k W K hK
      unfold enL at hK ⊢
      generalize L.getD k 0 = x at hK ⊢
      gi_wp2
      exact hK
    case body =>
      intro l k W hk hI
      have hmem : L.getD k 0 ∈ L := by rw [List.getD_eq_getElem?_getD, List.getElem?_eq_getElem hk]; exact List.getElem_mem hk
      obtain ⟨r0, r1⟩ := HLI.out _ hmem
      obtain ⟨c, hc⟩ : ∃ c : Nat, L.getD k 0 = c := ⟨(L.getD k 0).toNat, by omega⟩
      have HST : Hid (layN d f (L.take (k + 1)) = lay1 d (layN d f (L.take k)) c) := by show _ = _; rw [layN_take d f hk, hc, Int.toNat_natCast]
      have HSM := hide (layN_same d (L.take k) f)
      have HKN := hide (layN_keeps (d := d) HCZ.out (L.take k) HFO.out)
      obtain ⟨f', hf'⟩ : ∃ f', layN d f (L.take k) = f' := ⟨_, rfl⟩
      have hfl := hI.fl
      rw [hf'] at hfl HST HSM HKN
      rw [hc] at r1
      have hcn : c < f.w * f.h := by omega
      have hcn' : c < f'.w * f'.h := by rw [HSM.out.1, HSM.out.2]; exact hcn
      have x0 := hI.b0.cell 0
      have x2 := hI.b2.cell 0
      have y2 := hfl.blk.cell 2
      simp only [List.getElem?_toArray, List.getElem?_cons_succ, List.getElem?_cons_zero] at x0 x2 y2
      have g0 : W.cell? ⟨cb, c * 4, none⟩ = some (grv f' c 0) := hfl.ce.cell (i := 0) hcn' (by decide)
      have g1 : W.cell? ⟨cb, c * 4 + 1, none⟩ = some (grv f' c 1) := hfl.ce.cell (i := 1) hcn' (by decide)
      have g2 : W.cell? ⟨cb, c * 4 + 2, none⟩ = some (grv f' c 2) := hfl.ce.cell (i := 2) hcn' (by decide)
      have g3 : W.cell? ⟨cb, c * 4 + 3, none⟩ = some (grv f' c 3) := hfl.ce.cell (i := 3) hcn' (by decide)
      rw [HSM.out.1, HSM.out.2] at y2
      obtain ⟨nn, hnn⟩ : ∃ n, f.w * f.h = n := ⟨_, rfl⟩
      rw [hnn] at y2
      have hci : (c : Int) < (nn : Int) := by omega
      have HFL := hide hfl
      have HIK := hide hI
      have HCN := hide hcn'
      have HCB : Hid (F ≠ cb ∧ w.heap.size ≠ cb ∧ w.heap.size + 1 + 1 ≠ cb) := by have h1 := HL0.out; have h2 := hfl.lc; exact ⟨by omega, by omega, by omega⟩
      unfold enL
      rw [hc]
      have hmx : Tryz.prog.follows .mixedOrders = true := by kernel_rfl
      clear hmem r0 r1 hc hf' hfl hI hcn' hnn
      gi_wp2_with fail
      refine wpIn_region_round (S := fun w' => Hid (KpC cb W w')) hmx (by rfl) (fun ⟨_, _, h⟩ => h) (KpC.of_below (Below.refl _ _).drew) (fun hHeld => ?_)
      simp only [grv] at g0 g1 g2 g3
      refine wpAnyH_take (i := 0) (v := ?_) rfl (by kernel_rfl) (by kernel_rfl) (by kernel_rfl) (fun _ _ _ h => h) (Or.inl ⟨by rfl, ?_⟩) hHeld ?_
      rotate_left 1
      · intro Wx hSW; simp only [List.getElem_toArray, List.getElem_cons_zero]; have q0 := hSW.out.cell x0 HCB.out.2.1; have q2 := hSW.out.cell x2 HCB.out.2.2; have q3 := hSW.out.cell y2 HCB.out.1; go_simp; try with_reducible rfl
      simp only [Act.put, List.getElem_toArray, List.getElem_cons_zero, List.setIfInBounds_toArray, List.set_cons_zero, List.set_cons_succ]
      refine wpAnyH_take (i := 1) (v := ?_) rfl (by kernel_rfl) (by kernel_rfl) (by kernel_rfl) (fun _ _ _ h => h) (Or.inl ⟨by rfl, ?_⟩) hHeld ?_
      rotate_left 1
      · intro Wx hSW; simp only [List.getElem_toArray, List.getElem_cons_zero, List.getElem_cons_succ]; have q0 := hSW.out.cell x0 HCB.out.2.1; have q2 := hSW.out.cell x2 HCB.out.2.2; have q3 := hSW.out.cell y2 HCB.out.1; go_simp; try with_reducible rfl
      simp only [Act.put, List.getElem_toArray, List.getElem_cons_zero, List.getElem_cons_succ, List.setIfInBounds_toArray, List.set_cons_zero, List.set_cons_succ]
      refine wpAnyH_take (i := 2) (v := ?_) rfl (by kernel_rfl) (by kernel_rfl) (by kernel_rfl) (fun _ _ _ h => h) (Or.inl ⟨by rfl, ?_⟩) hHeld ?_
      rotate_left 1
      · intro Wx hSW; simp only [List.getElem_toArray, List.getElem_cons_zero, List.getElem_cons_succ]; have q0 := hSW.out.cell x0 HCB.out.2.1; have q2 := hSW.out.cell x2 HCB.out.2.2; have q3 := hSW.out.cell y2 HCB.out.1; go_simp; try with_reducible rfl
      simp only [Act.put, List.getElem_toArray, List.getElem_cons_zero, List.getElem_cons_succ, List.setIfInBounds_toArray, List.set_cons_zero, List.set_cons_succ]
      refine wpAnyH_take (i := 3) (v := ?_) rfl (by kernel_rfl) (by kernel_rfl) (by kernel_rfl) (fun _ _ _ h => h) (Or.inl ⟨by rfl, ?_⟩) hHeld ?_
      rotate_left 1
      · intro Wx hSW; simp only [List.getElem_toArray, List.getElem_cons_zero, List.getElem_cons_succ]; have q0 := hSW.out.cell x0 HCB.out.2.1; have q2 := hSW.out.cell x2 HCB.out.2.2; have q3 := hSW.out.cell y2 HCB.out.1; go_simp; try with_reducible rfl
      simp only [Act.put, List.getElem_toArray, List.getElem_cons_zero, List.getElem_cons_succ, List.setIfInBounds_toArray, List.set_cons_zero, List.set_cons_succ]
      refine wpAnyH_take (i := 4) (v := ?_) rfl (by kernel_rfl) (by kernel_rfl) (by kernel_rfl) (fun _ _ _ h => h) (Or.inl ⟨by rfl, ?_⟩) hHeld ?_
      rotate_left 1
      · intro Wx hSW; simp only [List.getElem_toArray, List.getElem_cons_zero, List.getElem_cons_succ]; have q0 := hSW.out.cell x0 HCB.out.2.1; have q2 := hSW.out.cell x2 HCB.out.2.2; have q3 := hSW.out.cell y2 HCB.out.1; go_simp; try with_reducible rfl
      simp only [Act.put, List.getElem_toArray, List.getElem_cons_zero, List.getElem_cons_succ, List.setIfInBounds_toArray, List.set_cons_zero, List.set_cons_succ]
      refine wpAnyH_take (i := 5) (v := ?_) rfl (by kernel_rfl) (by kernel_rfl) (by kernel_rfl) (fun _ _ _ h => h) (Or.inl ⟨by rfl, ?_⟩) hHeld ?_
      rotate_left 1
      · intro Wx hSW; simp only [List.getElem_toArray, List.getElem_cons_zero, List.getElem_cons_succ]; have q0 := hSW.out.cell x0 HCB.out.2.1; have q2 := hSW.out.cell x2 HCB.out.2.2; have q3 := hSW.out.cell y2 HCB.out.1; go_simp; try with_reducible rfl
      simp only [Act.put, List.getElem_toArray, List.getElem_cons_zero, List.getElem_cons_succ, List.setIfInBounds_toArray, List.set_cons_zero, List.set_cons_succ]
      refine wpAnyH_take (i := 6) (v := ?_) rfl (by kernel_rfl) (by kernel_rfl) (by kernel_rfl) (fun _ _ _ h => h) (Or.inl ⟨by rfl, ?_⟩) hHeld ?_
      rotate_left 1
      · intro Wx hSW; simp only [List.getElem_toArray, List.getElem_cons_zero, List.getElem_cons_succ]; have q0 := hSW.out.cell x0 HCB.out.2.1; have q2 := hSW.out.cell x2 HCB.out.2.2; have q3 := hSW.out.cell y2 HCB.out.1; go_simp; try with_reducible rfl
      simp only [Act.put, List.getElem_toArray, List.getElem_cons_zero, List.getElem_cons_succ, List.setIfInBounds_toArray, List.set_cons_zero, List.set_cons_succ]
      refine wpAnyH_take (i := 7) (v := ?_) rfl (by kernel_rfl) (by kernel_rfl) (by kernel_rfl) (fun _ _ _ h => h) (Or.inl ⟨by rfl, ?_⟩) hHeld ?_
      rotate_left 1
      · intro Wx hSW; simp only [List.getElem_toArray, List.getElem_cons_zero, List.getElem_cons_succ]; have q0 := hSW.out.cell x0 HCB.out.2.1; have q2 := hSW.out.cell x2 HCB.out.2.2; have q3 := hSW.out.cell y2 HCB.out.1; go_simp; try with_reducible rfl
      simp only [Act.put, List.getElem_toArray, List.getElem_cons_zero, List.getElem_cons_succ, List.setIfInBounds_toArray, List.set_cons_zero, List.set_cons_succ]
      refine wpAnyH_take (i := 8) (v := ?_) rfl (by kernel_rfl) (by kernel_rfl) (by kernel_rfl) (fun _ _ _ h => h) (Or.inl ⟨by rfl, ?_⟩) hHeld ?_
      rotate_left 1
      · intro Wx hSW; simp only [List.getElem_toArray, List.getElem_cons_zero, List.getElem_cons_succ]; have q0 := hSW.out.cell x0 HCB.out.2.1; have q2 := hSW.out.cell x2 HCB.out.2.2; have q3 := hSW.out.cell y2 HCB.out.1; go_simp; try with_reducible rfl
      simp only [Act.put, List.getElem_toArray, List.getElem_cons_zero, List.getElem_cons_succ, List.setIfInBounds_toArray, List.set_cons_zero, List.set_cons_succ]
      refine wpAnyH_take (i := 9) (v := ?_) rfl (by kernel_rfl) (by kernel_rfl) (by kernel_rfl) (fun _ _ _ h => h) (Or.inl ⟨by rfl, ?_⟩) hHeld ?_
      rotate_left 1
      · intro Wx hSW; simp only [List.getElem_toArray, List.getElem_cons_zero, List.getElem_cons_succ]; have q0 := hSW.out.cell x0 HCB.out.2.1; have q2 := hSW.out.cell x2 HCB.out.2.2; have q3 := hSW.out.cell y2 HCB.out.1; go_simp; try with_reducible rfl
      simp only [Act.put, List.getElem_toArray, List.getElem_cons_zero, List.getElem_cons_succ, List.setIfInBounds_toArray, List.set_cons_zero, List.set_cons_succ]
      refine wpAnyH_take (i := 10) (v := ?_) rfl (by kernel_rfl) (by kernel_rfl) (by kernel_rfl) (fun _ _ _ h => h) (Or.inl ⟨by rfl, ?_⟩) hHeld ?_
      rotate_left 1
      · intro Wx hSW; simp only [List.getElem_toArray, List.getElem_cons_zero, List.getElem_cons_succ]; have q0 := hSW.out.cell x0 HCB.out.2.1; have q2 := hSW.out.cell x2 HCB.out.2.2; have q3 := hSW.out.cell y2 HCB.out.1; go_simp; try with_reducible rfl
      simp only [Act.put, List.getElem_toArray, List.getElem_cons_zero, List.getElem_cons_succ, List.setIfInBounds_toArray, List.set_cons_zero, List.set_cons_succ]
      refine wpAnyH_take (i := 11) (v := ?_) rfl (by kernel_rfl) (by kernel_rfl) (by kernel_rfl) (fun _ _ _ h => h) (Or.inl ⟨by rfl, ?_⟩) hHeld ?_
      rotate_left 1
      · intro Wx hSW; simp only [List.getElem_toArray, List.getElem_cons_zero, List.getElem_cons_succ]; have q0 := hSW.out.cell x0 HCB.out.2.1; have q2 := hSW.out.cell x2 HCB.out.2.2; have q3 := hSW.out.cell y2 HCB.out.1; go_simp; try with_reducible rfl
      simp only [Act.put, List.getElem_toArray, List.getElem_cons_zero, List.getElem_cons_succ, List.setIfInBounds_toArray, List.set_cons_zero, List.set_cons_succ]
      refine wpAnyH_ready (rs := [12]) (by kernel_rfl) (by simp) ?_
      refine AllReadyH.cons rfl (fun K hK => ?_) AllReadyH.nil
      go_simp
      refine hK.out _ _ hHeld (fun hHeld => ?_)
      clear hK K
      try simp only [Act.put, List.getElem_toArray, List.getElem_cons_zero, List.getElem_cons_succ, List.setIfInBounds_toArray, List.set_cons_zero, List.set_cons_succ]
      have HC := hide (HCH.out f' c W.drew hcn (HIK.out.kp.trans (KpC.of_below (Below.refl _ _).drew)) HKN.out.1.cs)
      unfold gr4 at HC
      simp only [grv] at HC
      refine wpAnyH_ready (rs := [13]) (by kernel_rfl) (by simp) ?_
      refine AllReadyH.cons rfl (fun K hK => ?_) AllReadyH.nil
      go_simp
      refine HC.out.mono ?_
      rintro e W6 ⟨rfl, hb6⟩
      obtain ⟨f2, hf2⟩ : ∃ x, lay1 d f' c = x := ⟨_, rfl⟩
      rw [hf2]
      have HF2 := hide hf2
      have hb6' : Below W.heap.size W W6 := (Below.refl _ _).drew.trans hb6
      have HB6 := hide hb6'
      have j0 := cell_kept g0 hb6'
      have j1 := cell_kept g1 hb6'
      have j2 := cell_kept g2 hb6'
      have j3 := cell_kept g3 hb6'
      have HFL6 := hide (HFL.out.below hb6')
      have u0 := HFL6.out.ce.frozen (c * 4)
      have u1 := HFL6.out.ce.frozen (c * 4 + 1)
      have u2 := HFL6.out.ce.frozen (c * 4 + 2)
      have u3 := HFL6.out.ce.frozen (c * 4 + 3)
      have HK6 : Hid (KpC cb W W6) := KpC.of_below hb6'
      clear hb6 hb6' hf2 HC
      go_wp2_with fail
      refine hK.out _ _ HK6 (fun hHeld => ?_)
      clear hK K
      try simp only [Act.put, List.getElem_toArray, List.getElem_cons_zero, List.getElem_cons_succ, List.setIfInBounds_toArray, List.set_cons_zero, List.set_cons_succ]
      refine wpAnyH_take (i := 14) (v := ?_) rfl (by kernel_rfl) (by kernel_rfl) (by kernel_rfl) (fun _ _ _ h => h) (Or.inl ⟨by rfl, ?_⟩) hHeld ?_
      rotate_left 1
      · intro Wx hSW; simp only [List.getElem_toArray, List.getElem_cons_zero, List.getElem_cons_succ]; go_simp; try with_reducible rfl
      simp only [Act.put, List.getElem_toArray, List.getElem_cons_zero, List.getElem_cons_succ, List.setIfInBounds_toArray, List.set_cons_zero, List.set_cons_succ]
      refine wpAnyH_ready (rs := [15]) (by kernel_rfl) (by simp) ?_
      refine AllReadyH.cons rfl (fun K hK => ?_) AllReadyH.nil
      go_simp
      refine hK.out _ _ ((((HK6.out.set _).set _).set _).set _) (fun hHeld => ?_)
      clear hK K
      try simp only [Act.put, List.getElem_toArray, List.getElem_cons_zero, List.getElem_cons_succ, List.setIfInBounds_toArray, List.set_cons_zero, List.set_cons_succ]
      refine wpAnyH_done (by kernel_rfl) ?_ _
      have hko := KeepsOthers.of_grownBy (below_grown HB6.out) (fun j o e => by cases e)
      refine ⟨((((hko.trans (.setCell _ _ _)).trans (.setCell _ _ _)).trans (.setCell _ _ _)).trans (.setCell _ _ _)).from _, ?_⟩
      obtain ⟨cs, hcs, _⟩ := HFL6.out.ce
      have ky : ∀ {g : Nat} {t : TypeId} {ds : Array Value}, t ≠ 63 → Blk W g t ds → Blk ((((W6.setCell ⟨cb, c * 4, none⟩ (.bool (f2.wall c))).setCell ⟨cb, c * 4 + 1, none⟩ (.int .i64 (f2.cost c))).setCell ⟨cb, c * 4 + 2, none⟩ (.int .i64 (smW (f2.ways c)))).setCell ⟨cb, c * 4 + 3, none⟩ (.bool (tkB f2.tgs c))) g t ds := fun ht q => four_typed hcs (q.below HB6.out) ht _ _ _ _
      refine ⟨?_, ky (by decide) HIK.out.b0, ky (by decide) HIK.out.b2, ky (by decide) HIK.out.fb, ky (by decide) HIK.out.db, HIK.out.kp.trans ((((HK6.out.set _).set _).set _).set _), HIK.out.mz⟩
      rw [HST.out, HF2.out]
      refine HFL6.out.lay HCN.out _ _ _ _ (by rw [← HF2.out]; exact ⟨(lay1_same d f' c).1, (lay1_same d f' c).2.1, (lay1_same d f' c).2.2.1⟩) (fun x i hx hi => ?_)
      by_cases e : x = c
      · subst e
        rw [if_pos rfl]
        match i, hi with
        | 0, _ => rfl
        | 1, _ => rfl
        | 2, _ => rfl
        | 3, _ => rfl
      · rw [if_neg e, ← HF2.out]
        exact grv_other e i
    case done =>
      rintro D W hD hI hK
      have hfl := hI.fl
      rw [List.take_length] at hfl
      have HFL := hide hfl
      have HKP := hide hI.kp
      have HKD := hide hK
      have HMZ := hide hI.mz
      clear hI hK hfl
      gi_wp2
      refine ⟨by simp, .inl ⟨_, _, rfl, run_takeDeferred HKD.out, ?_⟩⟩
      refine ⟨_, results_tmp rfl _ _ _, 0, rfl, .inl rfl, ⟨fun _ => HI.out, fun _ => rfl⟩, fun _ => ?_, HKP.out.put (by have h1 := HZ5.out; omega)⟩
      rw [HLL.out]
      exact HFL.out.keep (fun q => cel_put q HKD.out rfl) (World.putObj_heap_other (by have h1 := HZ5.out; have h2 := HMZ.out; omega))
end Go.Proofs.YtijdlbanfdhfnaaGreatDoor

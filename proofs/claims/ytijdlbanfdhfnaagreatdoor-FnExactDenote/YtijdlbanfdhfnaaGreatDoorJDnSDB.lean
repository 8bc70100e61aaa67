/-
  The walk of spec.Denote.
-/
import Derived.Test.YtijdlbanfdhfnaaGreatDoorJDnSDA
import Derived.Test.YtijdlbanfdhfnaaGreatDoorJDnSD0
import Derived.Test.YtijdlbanfdhfnaaGreatDoorJDnSD9
import Derived.Test.YtijdlbanfdhfnaaGreatDoorJDnAPV
import Derived.Test.YtijdlbanfdhfnaaGreatDoorJDnDc0
namespace Go.Proofs.YtijdlbanfdhfnaaGreatDoor
open Go.RowKit

theorem lyv_zero (w : World) : LyV w .zero (.slice none 0 0) (.slice none 0 0) (.slice none 0 0) :=
  ⟨is_nil _ _, is_nil _ _, ⟨none, 0, 0, 0, rfl, fun h => absurd h (by decide), fun j hj => absurd hj (Nat.not_lt_zero _)⟩⟩
theorem Tryz.info4z : (Tryz.prog.info? 4).map (fun i => (i.zero, i.size, i.bytes)) = some (some (.bool false), 1, 1) := by kernel_rfl
theorem Tryz.info44z : (Tryz.prog.info? 44).map (fun i => (i.zero, i.size, i.bytes)) = some (some (.slice none 0 0), 1, 24) := by kernel_rfl
theorem Tryz.info3z : (Tryz.prog.info? 3).map (fun i => (i.zero, i.size, i.bytes)) = some (some (.int .i64 0), 1, 8) := by kernel_rfl
theorem dnR_step {f : Flo} {L : List Dc} {i : Nat} (hi : i < L.length) : dnR f i (L.drop i) = if apC f (L.getD i .zero) = 0 then dnR (apF f (L.getD i .zero) i) (i + 1) (L.drop (i + 1)) else (f, apC f (L.getD i .zero), (i : Int)) := by
  rw [List.drop_eq_getElem_cons hi]
  have e : L.getD i .zero = L[i] := by simp [List.getD, hi]
  rw [e]
  rfl
theorem wlT_step {f : Flo} {T : List Tg} {R : List Nat} {k : Nat} (hk : k < T.length) (hr : k < R.length) : wlT f (T.drop k) (R.drop k) = if f.wall (T.getD k .zero).cell.toNat = true then ((R.getD k 0 : Nat) : Int) else wlT f (T.drop (k + 1)) (R.drop (k + 1)) := by
  rw [List.drop_eq_getElem_cons hk, List.drop_eq_getElem_cons hr]
  have e : T.getD k .zero = T[k] := by simp [List.getD, hk]
  have e2 : R.getD k 0 = R[k] := by simp [List.getD, hr]
  rw [e, e2]
  rfl

set_option maxHeartbeats 8000000 in
set_option maxRecDepth 1000000 in
theorem specDenote_any (L : List Dc) (v : Value) (w : World) (hl : L.length ≤ 1048576) (hB : ∀ j, j < L.length → DcB (L.getD j .zero)) (h : DcS w v L) :
    Calls Tryz.prog 5 #[v] w fun e w' => ∃ v2 v3 v4, e = .returned (.tuple #[lyagg (dnA L).1 v2 v3 v4, .int .i64 (dnA L).2.1, .int .i64 (dnA L).2.2]) ∧ LyV w' (dnA L).1 v2 v3 v4 ∧ Below w.heap.size w w' := by
  obtain ⟨a0, b0, o0, c0, rfl, ha0, hc0⟩ := h
  have HD : Hid (∀ V, Below w.heap.size w V → ∀ j, j < L.length → ∃ v7, DcC V b0 (o0 + j * 9) (L.getD j .zero) v7 ∧ DcV V (L.getD j .zero) v7) := fun V hV j hj => by
    obtain ⟨v7, h1, h2⟩ := hc0 j hj
    exact ⟨v7, h1.below hV, h2.below hV⟩
  have HA0 : Hid (0 < L.length → a0 = some ⟨b0, o0, none⟩) := ha0
  have HDB := hide hB
  obtain ⟨W1, hW1⟩ : ∃ W, w.alloc (.cells #[.int .i64 0, .int .i64 0, .slice none 0 0, .slice none 0 0, .slice none 0 0] 27) = W := ⟨_, rfl⟩
  have hB1 : Below w.heap.size w W1 := by rw [← hW1]; exact (Below.refl _ _).alloc (Nat.le_refl _) _
  have HS1 : Hid (W1.heap.size = w.heap.size + 1) := by show _ = _; rw [← hW1, World.size_alloc]
  have HR1 : Hid (Blk W1 w.heap.size 27 #[.int .i64 0, .int .i64 0, .slice none 0 0, .slice none 0 0, .slice none 0 0]) := by rw [← hW1]; exact Blk.new _ _ _
  have HR : Hid (∀ V, Below W1.heap.size W1 V → Blk V w.heap.size 27 #[.int .i64 0, .int .i64 0, .slice none 0 0, .slice none 0 0, .slice none 0 0]) := fun V hV => HR1.out.below hV
  have HBW : Hid (∀ V, Below W1.heap.size W1 V → Below w.heap.size w V) := fun V hV => hB1.trans (hV.mono hB1.size)
  have hW := hW1
  have HNO : Hid (¬ dcsOk L → dnA L = (.zero, 1, 0)) := fun h => by unfold dnA; rw [if_pos h]
  have HN8 : Hid (dcsOk L → ¬ (0 < L.length ∧ grd0 (L.getD 0 .zero)) → dnA L = (.zero, 8, 0)) := fun h1 h2 => by unfold dnA; rw [if_neg (fun g => g h1), if_pos h2]
  clear hc0 ha0 hB hW1 hB1
  have r0 := (HR.out W1 (Below.refl _ _)).cell 0
  have r1 := (HR.out W1 (Below.refl _ _)).cell 1
  have r2 := (HR.out W1 (Below.refl _ _)).cell 2
  have r3 := (HR.out W1 (Below.refl _ _)).cell 3
  have r4 := (HR.out W1 (Below.refl _ _)).cell 4
  simp only [List.getElem?_toArray, List.getElem?_cons_succ, List.getElem?_cons_zero] at r0 r1 r2 r3 r4
  have rf0 := (HR.out W1 (Below.refl _ _)).frozen 0
  have rf1 := (HR.out W1 (Below.refl _ _)).frozen 1
  have rf2 := (HR.out W1 (Below.refl _ _)).frozen 2
  have rf3 := (HR.out W1 (Below.refl _ _)).frozen 3
  have rf4 := (HR.out W1 (Below.refl _ _)).frozen 4
  by_cases hlong : 9000 < L.length
  · have tl : (9000 : Int) < (L.length : Int) := by omega
    have HE := hide (HNO.out (fun h => by have := h.1; omega))
    go_enter Tryz.func5, Tryz.ntmps5
    go_wp2
    refine bodyPost_ret (results_row_tmp2 rfl _ _ _ w.heap.size 27 _ (0, 0) rfl (Blk.five (HR.out _ (Below.refl _ _)) _ _ _ _ _) Tryz.underlying27 (by kernel_rfl)) rfl ?_
    rw [HE.out]
    exact ⟨_, _, _, rfl, lyv_zero _, below_five (HBW.out _ (Below.refl _ _)) (Nat.le_refl _) _ _ _ _ _⟩
  have tl : ¬ (9000 : Int) < (L.length : Int) := by omega
  have hl9 : L.length ≤ 9000 := by omega
  clear hlong hl
  go_enter Tryz.func5, Tryz.ntmps5
  go_wp2
  clear hW r0 r1 r2 r3 r4 rf0 rf1 rf2 rf3 rf4
  go_loopw [5] (fun ix wr => ∃ k : Nat, k ≤ L.length ∧ ix = .int .i64 k ∧ (∀ j, j < k → DcOk (L.getD j .zero)) ∧ Below W1.heap.size W1 wr) (fun ix _ => L.length - (intOf ix).toNat)
  case atStart => exact ⟨0, Nat.zero_le _, rfl, fun j hj => by omega, Below.refl _ _⟩
  case round =>
    obtain ⟨k, hk, rfl, hok, hb⟩ := hrel
    rename World => V
    have HOK := hide hok
    have HB := hide hb
    by_cases hlt : k < L.length
    · have hlti : (k : Int) < (L.length : Int) := by omega
      obtain rfl := HA0.out (by omega)
      obtain ⟨v7, hdc, hdv⟩ := HD.out V (HBW.out V hb) k hlt
      have HDK := hide (fun W (hW : Below V.heap.size V W) => l4declOK_any (L.getD k .zero) v7 W (HDB.out k hlt) (hdv.below hW))
      obtain ⟨a7, c7, rfl⟩ := hdv.name.slice
      have HST : Hid (∀ b : Bool, (b = true ↔ DcOk (L.getD k .zero)) → (b = false → ¬ dcsOk L) ∧ (b = true → ∀ j, j < k + 1 → DcOk (L.getD j .zero))) := fun b hbi => by
        refine ⟨fun e h => ?_, fun e j hj => ?_⟩
        · rw [e] at hbi
          have := hbi.2 (h.2 k hlt)
          cases this
        · by_cases q : j = k
          · rw [q]; exact hbi.1 e
          · exact HOK.out j (by omega)
      obtain ⟨d, hd⟩ : ∃ d, L.getD k .zero = d := ⟨_, rfl⟩
      rw [hd] at hdc HDK HST
      obtain ⟨z0, z1, z2, z3, z4, z5, z6, z7, z8⟩ := hdc
      unfold dcagg at HDK
      clear hok hb hdv hd
      go_wp2_with fail
      refine (HDK.out _ (Below.refl _ _)).mono ?_
      rintro e V2 ⟨⟨b, rfl, hbi⟩, hb2⟩
      have HB2 : Hid (Below W1.heap.size W1 V2) := HB.out.trans (hb2.mono HB.out.size)
      have HSB := hide (HST.out b hbi)
      clear hbi hb2 z0 z1 z2 z3 z4 z5 z6 z7 z8 HST HDK
      cases b with
      | false =>
        have HE := hide (HNO.out (HSB.out.1 rfl))
        have r0 := (HR.out V2 HB2.out).cell 0
        have r1 := (HR.out V2 HB2.out).cell 1
        have r2 := (HR.out V2 HB2.out).cell 2
        have r3 := (HR.out V2 HB2.out).cell 3
        have r4 := (HR.out V2 HB2.out).cell 4
        simp only [List.getElem?_toArray, List.getElem?_cons_succ, List.getElem?_cons_zero] at r0 r1 r2 r3 r4
        have rf0 := (HR.out V2 HB2.out).frozen 0
        have rf1 := (HR.out V2 HB2.out).frozen 1
        have rf2 := (HR.out V2 HB2.out).frozen 2
        have rf3 := (HR.out V2 HB2.out).frozen 3
        have rf4 := (HR.out V2 HB2.out).frozen 4
        go_wp2
        refine bodyPost_ret (results_row_tmp2 rfl _ _ _ w.heap.size 27 _ (0, 0) rfl (Blk.five (HR.out _ HB2.out) _ _ _ _ _) Tryz.underlying27 (by kernel_rfl)) rfl ?_
        rw [HE.out]
        exact ⟨_, _, _, rfl, lyv_zero _, below_five (HBW.out _ HB2.out) (Nat.le_refl _) _ _ _ _ _⟩
      | true =>
        have HOK2 := hide (HSB.out.2 rfl)
        go_wp2
        go_roundw
        case rel => exact ⟨k + 1, by omega, by go_num, HOK2.out, HB2.out⟩
        case measure => simp [intOf]; omega
    · obtain rfl : k = L.length := by omega
      have hge : ¬ (L.length : Int) < (L.length : Int) := by omega
      have HDK : Hid (dcsOk L) := ⟨hl9, fun j hj => HOK.out j hj⟩
      clear hok hb hlt
      have r0 := (HR.out V HB.out).cell 0
      have r1 := (HR.out V HB.out).cell 1
      have r2 := (HR.out V HB.out).cell 2
      have r3 := (HR.out V HB.out).cell 3
      have r4 := (HR.out V HB.out).cell 4
      simp only [List.getElem?_toArray, List.getElem?_cons_succ, List.getElem?_cons_zero] at r0 r1 r2 r3 r4
      have rf0 := (HR.out V HB.out).frozen 0
      have rf1 := (HR.out V HB.out).frozen 1
      have rf2 := (HR.out V HB.out).frozen 2
      have rf3 := (HR.out V HB.out).frozen 3
      have rf4 := (HR.out V HB.out).frozen 4
      by_cases q0 : L.length = 0
      · have HE := hide (HN8.out HDK.out (fun h => by omega))
        have t0 : (((L.length : Nat) : Int) == 0) = true := by rw [q0]; rfl
        go_wp2
        refine bodyPost_ret (results_row_tmp2 rfl _ _ _ w.heap.size 27 _ (0, 0) rfl (Blk.five (HR.out _ HB.out) _ _ _ _ _) Tryz.underlying27 (by kernel_rfl)) rfl ?_
        rw [HE.out]
        exact ⟨_, _, _, rfl, lyv_zero _, below_five (HBW.out _ HB.out) (Nat.le_refl _) _ _ _ _ _⟩
      have t0 : (((L.length : Nat) : Int) == 0) = false := by rw [beq_eq_false_iff_ne]; omega
      have hpos : 0 < L.length := by omega
      have hposi : (0 : Int) < (L.length : Int) := by omega
      obtain rfl := HA0.out hpos
      obtain ⟨v7, hdc, hdv⟩ := HD.out V (HBW.out V HB.out) 0 hpos
      obtain ⟨d0, hd0⟩ : ∃ d, L.getD 0 .zero = d := ⟨_, rfl⟩
      rw [hd0] at hdc
      rw [Nat.zero_mul, Nat.add_zero] at hdc
      obtain ⟨z0, z1, z2, _, _, _, _, _, _⟩ := hdc
      have HD0 := hide hd0
      have HG8 : Hid (¬ grd0 d0 → dnA L = (.zero, 8, 0)) := fun h => HN8.out HDK.out (fun g => h (by have := g.2; rw [hd0] at this; exact this))
      clear hdv hd0
      by_cases q1 : d0.kind ≠ 7
      · have HE := hide (HG8.out (fun h => by have h1 := h.1; have h2 := h.2.1; have h3 := h.2.2.1; have h4 := h.2.2.2.1; have h5 := h.2.2.2.2; omega))
        have t1 : (d0.kind != 7) = true := by rw [bne_iff_ne]; exact q1
        go_wp2
        refine bodyPost_ret (results_row_tmp2 rfl _ _ _ w.heap.size 27 _ (0, 0) rfl (Blk.five (HR.out _ HB.out) _ _ _ _ _) Tryz.underlying27 (by kernel_rfl)) rfl ?_
        rw [HE.out]
        exact ⟨_, _, _, rfl, lyv_zero _, below_five (HBW.out _ HB.out) (Nat.le_refl _) _ _ _ _ _⟩
      have q1 : d0.kind = 7 := Classical.not_not.1 q1
      have t1 : (d0.kind != 7) = false := by rw [bne_eq_false_iff_eq]; exact q1
      by_cases q2 : d0.x1 < 1
      · have HE := hide (HG8.out (fun h => by have h1 := h.1; have h2 := h.2.1; have h3 := h.2.2.1; have h4 := h.2.2.2.1; have h5 := h.2.2.2.2; omega))
        have t2 : decide (d0.x1 < 1) = true := decide_eq_true q2
        go_wp2
        refine bodyPost_ret (results_row_tmp2 rfl _ _ _ w.heap.size 27 _ (0, 0) rfl (Blk.five (HR.out _ HB.out) _ _ _ _ _) Tryz.underlying27 (by kernel_rfl)) rfl ?_
        rw [HE.out]
        exact ⟨_, _, _, rfl, lyv_zero _, below_five (HBW.out _ HB.out) (Nat.le_refl _) _ _ _ _ _⟩
      have t2 : decide (d0.x1 < 1) = false := decide_eq_false q2
      by_cases q3 : 40 < d0.x1
      · have HE := hide (HG8.out (fun h => by have h1 := h.1; have h2 := h.2.1; have h3 := h.2.2.1; have h4 := h.2.2.2.1; have h5 := h.2.2.2.2; omega))
        have t3 : decide (40 < d0.x1) = true := decide_eq_true q3
        go_wp2
        refine bodyPost_ret (results_row_tmp2 rfl _ _ _ w.heap.size 27 _ (0, 0) rfl (Blk.five (HR.out _ HB.out) _ _ _ _ _) Tryz.underlying27 (by kernel_rfl)) rfl ?_
        rw [HE.out]
        exact ⟨_, _, _, rfl, lyv_zero _, below_five (HBW.out _ HB.out) (Nat.le_refl _) _ _ _ _ _⟩
      have t3 : decide (40 < d0.x1) = false := decide_eq_false q3
      by_cases q4 : d0.y1 < 1
      · have HE := hide (HG8.out (fun h => by have h1 := h.1; have h2 := h.2.1; have h3 := h.2.2.1; have h4 := h.2.2.2.1; have h5 := h.2.2.2.2; omega))
        have t4 : decide (d0.y1 < 1) = true := decide_eq_true q4
        go_wp2
        refine bodyPost_ret (results_row_tmp2 rfl _ _ _ w.heap.size 27 _ (0, 0) rfl (Blk.five (HR.out _ HB.out) _ _ _ _ _) Tryz.underlying27 (by kernel_rfl)) rfl ?_
        rw [HE.out]
        exact ⟨_, _, _, rfl, lyv_zero _, below_five (HBW.out _ HB.out) (Nat.le_refl _) _ _ _ _ _⟩
      have t4 : decide (d0.y1 < 1) = false := decide_eq_false q4
      by_cases q5 : 40 < d0.y1
      · have HE := hide (HG8.out (fun h => by have h1 := h.1; have h2 := h.2.1; have h3 := h.2.2.1; have h4 := h.2.2.2.1; have h5 := h.2.2.2.2; omega))
        have t5 : decide (40 < d0.y1) = true := decide_eq_true q5
        go_wp2
        refine bodyPost_ret (results_row_tmp2 rfl _ _ _ w.heap.size 27 _ (0, 0) rfl (Blk.five (HR.out _ HB.out) _ _ _ _ _) Tryz.underlying27 (by kernel_rfl)) rfl ?_
        rw [HE.out]
        exact ⟨_, _, _, rfl, lyv_zero _, below_five (HBW.out _ HB.out) (Nat.le_refl _) _ _ _ _ _⟩
      have t5 : decide (40 < d0.y1) = false := decide_eq_false q5
      have HGR : Hid (grd0 d0) := ⟨q1, by omega, by omega, by omega, by omega⟩
      obtain ⟨fw, hfw⟩ : ∃ x : Nat, d0.x1 = x := ⟨d0.x1.toNat, by omega⟩
      obtain ⟨fh, hfh⟩ : ∃ x : Nat, d0.y1 = x := ⟨d0.y1.toNat, by omega⟩
      have HF1 : Hid (1 ≤ fw ∧ fw ≤ 40 ∧ 1 ≤ fh ∧ fh ≤ 40) := ⟨by omega, by omega, by omega, by omega⟩
      have HDN : Hid (dnA L = (let r := dnR (flo0 fw fh) 1 (L.drop 1); if r.2.1 ≠ 0 then (.zero, r.2.1, r.2.2) else if 0 ≤ wlT r.1 r.1.tgs r.1.frs then (.zero, 8, wlT r.1 r.1.tgs r.1.frs) else (lyOf r.1, 0, 0))) := by
        show _ = _
        unfold dnA
        rw [if_neg (fun g => g HDK.out), if_neg (fun g => g ⟨hpos, by rw [HD0.out]; exact HGR.out⟩), HD0.out, hfw, hfh, Int.toNat_natCast, Int.toNat_natCast]
      rw [hfw] at z1 t2 t3
      rw [hfh] at z2 t4 t5
      clear q1 q2 q3 q4 q5 HG8 hfw hfh r0 r1 r2 r3 r4 rf0 rf1 rf2 rf3 rf4
      go_wp2_with fail
      go_region
      clear z0 z1 z2 t0 t1 t2 t3 t4 t5
      obtain ⟨F, hF⟩ : ∃ b, V.heap.size = b := ⟨_, rfl⟩
      obtain ⟨W2, hW2⟩ : ∃ W, (V.alloc (.cells #[.int .i64 (fw : Nat), .int .i64 (fh : Nat), .slice none 0 0, .slice none 0 0, .slice none 0 0, .slice none 0 0, .slice none 0 0] 47)).drew = W := ⟨_, rfl⟩
      have HB2 : Hid (Below V.heap.size V W2) := by rw [← hW2]; exact ((Below.refl _ _).alloc (Nat.le_refl _) _).drew
      have HF2 : Hid (FlB W2 F (fw : Nat) (fh : Nat) 0 0 0 (.slice none 0 0) (.slice none 0 0) (.slice none 0 0) (fun _ => 0)) := by
        rw [← hW2, ← hF]
        exact ⟨Blk.new V _ _, World.ownsRow_nil _ _ _ _, World.ownsRow_nil _ _ _ _, World.ownsRow_nil _ _ _ _, fun j hj => by omega, fun c c' hc => by omega, fun j hj => by omega, fun j hj => by omega⟩
      have HVW : Hid (∀ W, Below V.heap.size V W → Below W1.heap.size W1 W) := fun W hW => HB.out.trans (hW.mono HB.out.size)
      have HFV := hide hF
      rw [hW2, hF]
      obtain ⟨n, hn⟩ : ∃ n, fw * fh = n := ⟨_, rfl⟩
      have hnb : n ≤ 1600 := by obtain ⟨_, h2, _, h4⟩ := HF1.out; rw [← hn]; exact Nat.mul_le_mul h2 h4
      have hn0 : 0 < n := by obtain ⟨h1, _, h3, _⟩ := HF1.out; rw [← hn]; exact Nat.mul_pos h1 h3
      have hmul : ((fw : Nat) : Int) * ((fh : Nat) : Int) = (n : Int) := by rw [← hn]; simp
      have HN := hide hn
      clear hF hW2 hn
      go_wp2
      rename World => VV
      go_loopw [7] (fun cx wr => ∃ (c : Nat) (vw vc vd : Value) (G : Nat → Nat), c ≤ n ∧ cx = .int .i64 c ∧ FlB wr F (fw : Nat) (fh : Nat) c c c vw vc vd G ∧ Below V.heap.size V wr) (fun cx _ => n - (intOf cx).toNat)
      case atStart => exact ⟨0, _, _, _, _, Nat.zero_le _, rfl, HF2.out, HB2.out⟩
      case round =>
        clear HF2 HB2
        obtain ⟨c, vw, vc, vd, G, hc, rfl, hf, hb⟩ := hrel
        rename World => U
        have HF := hide hf
        have HBU := hide hb
        obtain ⟨aw, cw, rfl⟩ := own_slcV hf.ow
        obtain ⟨ac, cc, rfl⟩ := own_slcV hf.oc
        obtain ⟨ad, cd, rfl⟩ := own_slcV hf.od
        have x0 := hf.blk.cell 0
        have x1 := hf.blk.cell 1
        have x2 := hf.blk.cell 2
        have x3 := hf.blk.cell 3
        have x4 := hf.blk.cell 4
        simp only [List.getElem?_toArray, List.getElem?_cons_succ, List.getElem?_cons_zero] at x0 x1 x2 x3 x4
        by_cases hlt : c < n
        · have hlti : (c : Int) < (n : Int) := by omega
          clear hf hb
          go_wp2_with fail
          go_quiet (fail)
          obtain ⟨U0, hU0⟩ : ∃ W, U.drewN nq = W := ⟨_, rfl⟩
          have hbq : Below U.heap.size U U0 := by rw [← hU0]; exact below_drewN (Below.refl _ _) _
          have HF0 := hide (HF.out.below hbq)
          have HB0 : Hid (Below V.heap.size V U0) := HBU.out.trans (hbq.mono HBU.out.size)
          rw [hU0]
          have y2 := HF0.out.blk.cell 2
          simp only [List.getElem?_toArray, List.getElem?_cons_succ, List.getElem?_cons_zero] at y2
          have hA0 := (Below.refl _ U0).alloc (Nat.le_refl _) (.cells #[.bool false] 4)
          have HF0a := hide (HF0.out.below hA0)
          have HN0 : Hid ((U0.alloc (.cells #[.bool false] 4)).cell? ⟨U0.heap.size, 0, none⟩ = some (.bool false)) := (Blk.new _ _ _).cell 0
          clear hU0 hbq x0 x1 x2 x3 x4 hA0
          go_wp2_with (first
            | (at_builtin; refine wp_app1V rfl _ _ 44 4 rfl (.bool false) 1 Tryz.underlying44 Tryz.info4z rfl (by decide) (F + 1) _ c _ rfl HF0a.out.ow _ 1 (.bool false) rfl HN0.out rfl (by omega) HF0a.out.blk.lt ?_; intro v1 w1 ho1 hg1 ha1; obtain ⟨a1, c1, rfl⟩ := own_slcV ho1; have hb1 := app_typed HF0a.out.blk (by decide) HF0a.out.ow hg1; have y2 := hb1.cell 2; have y2f := hb1.frozen 2; simp only [List.getElem?_toArray, List.getElem?_cons_succ, List.getElem?_cons_zero] at y2; have hF1 := HF0a.out.app2 ho1 hg1 ha1; have HB1 : Hid (Below F V w1) := ((HB0.out.mono (by rw [HFV.out]; exact Nat.le_refl _)).alloc (by have h1 := HF0.out.blk.lt; omega) _).grown hg1 (by have h1 := HF0a.out.blk.lt; omega) (fun k hk => by have h1 := (HF0a.out.ow.lt k hk).1; omega); have y3 := hF1.blk.cell 3; simp only [List.getElem?_toArray, List.getElem?_cons_succ, List.getElem?_cons_zero] at y3; have hA1 := (Below.refl _ (w1.setCell ⟨F, 2, none⟩ (.slice a1 (c + 1) c1))).alloc (Nat.le_refl _) (.cells #[.int .i64 1] 3); have HF1b := hide hF1; have HF1a := hide (hF1.below hA1); have HN1 : Hid (((w1.setCell ⟨F, 2, none⟩ (.slice a1 (c + 1) c1)).alloc (.cells #[.int .i64 1] 3)).cell? ⟨w1.heap.size, 0, none⟩ = some (.int .i64 1)) := (by have h := (Blk.new (w1.setCell ⟨F, 2, none⟩ (.slice a1 (c + 1) c1)) 3 #[.int .i64 1]).cell 0; rw [World.size_setCell] at h; exact h); clear ho1 hg1 ha1 hb1 hF1 hA1)
            | (at_builtin; refine wp_app1V rfl _ _ 24 3 rfl (.int .i64 0) 8 Tryz.underlying24 Tryz.info3z rfl (by decide) (F + 1) _ c _ rfl HF1a.out.oc _ 1 (.int .i64 1) rfl HN1.out rfl (by omega) HF1a.out.blk.lt ?_; intro v2 w2 ho2 hg2 ha2; obtain ⟨a2, c2, rfl⟩ := own_slcV ho2; have hb2 := app_typed HF1a.out.blk (by decide) HF1a.out.oc hg2; have y3 := hb2.cell 3; have y3f := hb2.frozen 3; simp only [List.getElem?_toArray, List.getElem?_cons_succ, List.getElem?_cons_zero] at y3; have hF2 := HF1a.out.app3 ho2 hg2; have HB2 : Hid (Below F V w2) := (((HB1.out.setCell (p := ⟨F, 2, none⟩) (Nat.le_refl _) _).alloc (by rw [World.size_setCell]; have h1 := HF1b.out.blk.lt; rw [World.size_setCell] at h1; omega) _).grown hg2 (by have h1 := HF1a.out.blk.lt; omega) (fun k hk => by have h1 := (HF1a.out.oc.lt k hk).1; omega)); have y4 := hF2.blk.cell 4; simp only [List.getElem?_toArray, List.getElem?_cons_succ, List.getElem?_cons_zero] at y4; have hA2 := (Below.refl _ (w2.setCell ⟨F, 3, none⟩ (.slice a2 (c + 1) c2))).alloc (Nat.le_refl _) (.cells #[.bool true, .bool true, .bool true, .bool true] 4); have hA3 := hA2.alloc hA2.size (.cells #[.slice (some ⟨w2.heap.size, 0, none⟩) 4 4] 44); have HF2b := hide hF2; have HF2a := hide (hF2.below hA3); have HN2 : Hid ((((w2.setCell ⟨F, 3, none⟩ (.slice a2 (c + 1) c2)).alloc (.cells #[.bool true, .bool true, .bool true, .bool true] 4)).alloc (.cells #[.slice (some ⟨w2.heap.size, 0, none⟩) 4 4] 44)).cell? ⟨w2.heap.size + 1, 0, none⟩ = some (.slice (some ⟨w2.heap.size, 0, none⟩) 4 4)) := (by have h := (Blk.new ((w2.setCell ⟨F, 3, none⟩ (.slice a2 (c + 1) c2)).alloc (.cells #[.bool true, .bool true, .bool true, .bool true] 4)) 44 #[.slice (some ⟨w2.heap.size, 0, none⟩) 4 4]).cell 0; rw [World.size_alloc, World.size_setCell] at h; exact h); have HRW : Hid (Rw (((w2.setCell ⟨F, 3, none⟩ (.slice a2 (c + 1) c2)).alloc (.cells #[.bool true, .bool true, .bool true, .bool true] 4)).alloc (.cells #[.slice (some ⟨w2.heap.size, 0, none⟩) 4 4] 44)) w2.heap.size 4 4 (fun _ => .bool true)) := (by refine ⟨#[.bool true, .bool true, .bool true, .bool true], ?_, fun k hk => ?_⟩; (have h := (Blk.new (w2.setCell ⟨F, 3, none⟩ (.slice a2 (c + 1) c2)) 4 #[.bool true, .bool true, .bool true, .bool true]).alloc (.cells #[.slice (some ⟨w2.heap.size, 0, none⟩) 4 4] 44); rw [World.size_setCell] at h; exact h); (match k, hk with | 0, _ => rfl | 1, _ => rfl | 2, _ => rfl | 3, _ => rfl)); have HSZ : Hid ((w2.setCell ⟨F, 3, none⟩ (.slice a2 (c + 1) c2)).heap.size = w2.heap.size) := (by show _ = _; rw [World.size_setCell]); clear ho2 hg2 ha2 hb2 hF2 hA2 hA3)
            | (at_builtin; refine wp_app1V rfl _ _ 45 44 rfl (.slice none 0 0) 24 Tryz.underlying45 Tryz.info44z rfl (by decide) (F + 1) _ c _ rfl HF2a.out.od _ 1 (.slice (some ⟨w2.heap.size, 0, none⟩) 4 4) rfl HN2.out rfl (by omega) HF2a.out.blk.lt ?_; intro v3 w3 ho3 hg3 ha3; obtain ⟨a3, c3, rfl⟩ := own_slcV ho3; have hb3 := app_typed HF2a.out.blk (by decide) HF2a.out.od hg3; have y4 := hb3.cell 4; have y4f := hb3.frozen 4; simp only [List.getElem?_toArray, List.getElem?_cons_succ, List.getElem?_cons_zero] at y4; have hF3 := HF2a.out.app4 HRW.out (fun j hj e => by have h2 := HF2b.out.wr j hj; obtain ⟨cs, q, _⟩ := h2; have h3 := q.lt; have h4 := HSZ.out; omega) (fun e => by have h2 := (HF2b.out.ow.lt _ e).2; have h4 := HSZ.out; omega) (by have h1 := HF2b.out.blk.lt; have h4 := HSZ.out; omega) ho3 hg3; have HB3 : Hid (Below F V w3) := ((((HB2.out.setCell (p := ⟨F, 3, none⟩) (Nat.le_refl _) _).alloc (by have h1 := HF2b.out.blk.lt; omega) _).alloc (by rw [World.size_alloc]; have h1 := HF2b.out.blk.lt; omega) _).grown hg3 (by have h1 := HF2a.out.blk.lt; omega) (fun k hk => by have h1 := (HF2a.out.od.lt k hk).1; omega)); have HF3 := hide hF3; clear ho3 hg3 ha3 hb3 hF3))
          go_roundw
          case rel => exact ⟨c + 1, _, _, _, _, by omega, by go_num, HF3.out, (HB3.out.setCell (p := ⟨F, 4, none⟩) (Nat.le_refl _) _).mono (by rw [HFV.out]; exact Nat.le_refl _)⟩
          case measure => simp [intOf]; omega
        · obtain rfl : c = n := by omega
          have hge : ¬ (c : Int) < (c : Int) := by omega
          obtain ⟨bw, bc, bd, cw', cc', cd', hm⟩ := hf.flm HN.out hn0
          have HM := hide hm
          clear hf hb hm
          go_wp2_with fail
          go_quiet (fail)
          go_wp2
          clear x0 x1 x2 x3 x4
          have HM0 := hide (HM.out.below (below_drewN (Below.refl _ _) nq))
          have HBQ := hide (below_drewN HBU.out nq)
          have HFO0 : Hid (FloOk (flo0 fw fh)) := by obtain ⟨h1, h2, h3, h4⟩ := HF1.out; exact FloOk.first h1 h2 h3 h4
          have HVF : Hid (∀ W, Below F V W → Below V.heap.size V W) := fun W hW => hW.mono (by rw [HFV.out]; exact Nat.le_refl _)
          clear HM HF HBU
          go_loopw [8] (fun ix wr => ∃ (i : Nat) (f : Flo) (vt vf : Value) (ns : List (Tg × Value)), 1 ≤ i ∧ i ≤ L.length ∧ ix = .int .i64 i ∧ FlM wr F bw bc bd cw' cc' cd' G f vt vf ns ∧ FloOk f ∧ f.w = fw ∧ f.h = fh ∧ dnR (flo0 fw fh) 1 (L.drop 1) = dnR f i (L.drop i) ∧ Below V.heap.size V wr) (fun ix _ => L.length - (intOf ix).toNat)
          case atStart => exact ⟨1, _, _, _, _, Nat.le_refl _, hpos, rfl, HM0.out, HFO0.out, rfl, rfl, rfl, HBQ.out⟩
          case round =>
            clear HM0 HBQ HFO0
            obtain ⟨i, f, vt, vf, ns, hi1, hi2, rfl, hm, hfo, hfw, hfh, hdn, hb⟩ := hrel
            rename World => X
            have HM := hide hm
            have HFO := hide hfo
            have HFW := hide hfw
            have HFH := hide hfh
            have HDR := hide hdn
            have HBX := hide hb
            have HBX1 := hide (HVW.out X hb)
            by_cases hlt : i < L.length
            · have hlti : (i : Int) < (L.length : Int) := by omega
              obtain ⟨v7, hdc, hdv⟩ := HD.out X (HBW.out X HBX1.out) i hlt
              have HAP := hide (l4apply_any F bw bc bd cw' cc' cd' G f vt vf ns (L.getD i .zero) v7 i X (HDK.out.2 i hlt) hfo hdv.name hm)
              have HOKD := hide (HDK.out.2 i hlt)
              have HSP := hide (dnR_step (f := f) hlt)
              obtain ⟨a7, c7, rfl⟩ := hdv.name.slice
              obtain ⟨d, hd⟩ : ∃ d, L.getD i .zero = d := ⟨_, rfl⟩
              rw [hd] at hdc HAP HSP HOKD
              obtain ⟨z0, z1, z2, z3, z4, z5, z6, z7, z8⟩ := hdc
              unfold dcagg at HAP
              clear hm hfo hfw hfh hdn hb hdv hd
              go_wp2_with fail
              refine HAP.out.mono ?_
              rintro e X2 ⟨rfl, h1, h2⟩
              have HP1 := hide h1
              have HBX2 : Hid (Below V.heap.size V X2) := HVF.out _ ((HBX.out.mono (by rw [HFV.out]; exact Nat.le_refl _)).trans h2)
              clear h1 h2 z0 z1 z2 z3 z4 z5 z6 z7 z8 HAP
              by_cases hc0 : apC f d = 0
              · have HOK3 := hide (apF_ok (i := i) HFO.out HOKD.out hc0)
                have HSQ : Hid (dnR f i (L.drop i) = dnR (apF f d i) (i + 1) (L.drop (i + 1))) := by rw [HSP.out, if_pos hc0]; rfl
                obtain ⟨vt', vf', ns', hm'⟩ := HP1.out hc0
                have HM' := hide hm'
                rw [hc0]
                clear hm' hc0 HP1
                go_wp2
                go_roundw
                case rel => exact ⟨i + 1, _, _, _, _, by omega, by omega, by go_num, HM'.out, HOK3.out.1, HOK3.out.2.1.trans HFW.out, HOK3.out.2.2.trans HFH.out, HDR.out.trans HSQ.out, HBX2.out⟩
                case measure => simp [intOf]; omega
              · have HE : Hid (dnA L = (.zero, apC f d, (i : Int))) := by
                  show _ = _
                  rw [HDN.out, HDR.out, HSP.out, if_neg hc0]
                  simp only
                  rw [if_pos hc0]
                obtain ⟨cde, hcde⟩ : ∃ c, apC f d = c := ⟨_, rfl⟩
                rw [hcde] at HE hc0 ⊢
                have tc : (cde != 0) = true := by rw [bne_iff_ne]; exact hc0
                have HX21 := hide (HVW.out X2 HBX2.out)
                have r0 := (HR.out X2 HX21.out).cell 0
                have r1 := (HR.out X2 HX21.out).cell 1
                have r2 := (HR.out X2 HX21.out).cell 2
                have r3 := (HR.out X2 HX21.out).cell 3
                have r4 := (HR.out X2 HX21.out).cell 4
                simp only [List.getElem?_toArray, List.getElem?_cons_succ, List.getElem?_cons_zero] at r0 r1 r2 r3 r4
                have rf0 := (HR.out X2 HX21.out).frozen 0
                have rf1 := (HR.out X2 HX21.out).frozen 1
                have rf2 := (HR.out X2 HX21.out).frozen 2
                have rf3 := (HR.out X2 HX21.out).frozen 3
                have rf4 := (HR.out X2 HX21.out).frozen 4
                clear hcde hc0 HP1 HSP
                go_wp2
                refine bodyPost_ret (results_row_tmp2 rfl _ _ _ w.heap.size 27 _ (0, 0) rfl (Blk.five (HR.out _ HX21.out) _ _ _ _ _) Tryz.underlying27 (by kernel_rfl)) rfl ?_
                rw [HE.out]
                exact ⟨_, _, _, rfl, lyv_zero _, below_five (HBW.out _ HX21.out) (Nat.le_refl _) _ _ _ _ _⟩
            · obtain rfl : i = L.length := by omega
              have hge2 : ¬ (L.length : Int) < (L.length : Int) := by omega
              have HDF : Hid (dnR (flo0 fw fh) 1 (L.drop 1) = (f, 0, 0)) := by
                show _ = _
                rw [hdn, List.drop_length]
                rfl
              have HDW : Hid (dnA L = if 0 ≤ wlT f f.tgs f.frs then (.zero, 8, wlT f f.tgs f.frs) else (lyOf f, 0, 0)) := by
                show _ = _
                rw [HDN.out, HDF.out]
                simp only
                rw [if_neg (by decide)]
              have hns30 : ns.length ≤ 30 := by have h1 := hfo.tl; rw [← hm.ts, List.length_map] at h1; exact h1
              have hfl : f.frs.length = ns.length := by rw [hfo.fl, ← hm.ts, List.length_map]
              have htl : f.tgs.length = ns.length := by rw [← hm.ts, List.length_map]
              have HFL := hide hfl
              have HTL := hide htl
              clear hm hfo hfw hfh hdn hb hlt hfl htl
              go_wp2
              go_loopw [10] (fun kx wr => ∃ k : Nat, k ≤ ns.length ∧ kx = .int .i64 k ∧ wlT f f.tgs f.frs = wlT f (f.tgs.drop k) (f.frs.drop k) ∧ Below X.heap.size X wr) (fun kx _ => ns.length - (intOf kx).toNat)
              case atStart => exact ⟨0, Nat.zero_le _, rfl, rfl, Below.refl _ _⟩
              case round =>
                obtain ⟨k, hk, rfl, hwl, hbY⟩ := hrel
                rename World => Y
                have HWL := hide hwl
                have HBYX := hide hbY
                have HMY := hide (HM.out.below hbY)
                have HBY : Hid (Below V.heap.size V Y) := HBX.out.trans (hbY.mono HBX.out.size)
                have HBY1 := hide (HVW.out Y HBY.out)
                have x2 := HMY.out.blk.cell 2
                have x5 := HMY.out.blk.cell 5
                have x6 := HMY.out.blk.cell 6
                simp only [List.getElem?_toArray, List.getElem?_cons_succ, List.getElem?_cons_zero] at x2 x5 x6
                obtain ⟨at5, b5, ct5, hvt, ha5, hc5, _⟩ := HMY.out.tg.view
                by_cases hkt : k < ns.length
                · have hkti : (k : Int) < (ns.length : Int) := by omega
                  obtain ⟨p, hp⟩ : ∃ p, ns[k]? = some p := ⟨_, List.getElem?_eq_getElem hkt⟩
                  have e2 : Y.cell? ⟨b5, k * 3 + 2, none⟩ = some (.int .i64 p.1.cell) := hc5 k hkt p hp 2 (by omega)
                  have htk : f.tgs[k]? = some p.1 := by rw [← HM.out.ts, List.getElem?_map, hp]; rfl
                  have hmem : p.1 ∈ f.tgs := List.mem_of_getElem? htk
                  obtain ⟨hcl0, hcl1⟩ := HFO.out.tc p.1 hmem
                  have hgd : f.tgs.getD k .zero = p.1 := by rw [List.getD_eq_getElem?_getD, htk]; rfl
                  have hstep := wlT_step (f := f) (T := f.tgs) (R := f.frs) (k := k) (by rw [HTL.out]; exact hkt) (by rw [HFL.out]; exact hkt)
                  rw [hgd] at hstep
                  obtain ⟨m, hm⟩ : ∃ m : Nat, p.1.cell = m := ⟨p.1.cell.toNat, by omega⟩
                  rw [hm] at e2 hcl1 hstep
                  rw [Int.toNat_natCast] at hstep
                  have hmn : m < f.w * f.h := by omega
                  have e4 := HMY.out.wl.cell hmn
                  obtain ⟨nn, hnn⟩ : ∃ n, f.w * f.h = n := ⟨_, rfl⟩
                  rw [hnn] at x2 hmn
                  have hmni : (m : Int) < (nn : Int) := by omega
                  obtain ⟨b, hbw⟩ : ∃ b, f.wall m = b := ⟨_, rfl⟩
                  rw [hbw] at e4 hstep
                  obtain rfl := (ha5 (by omega)).1
                  subst hvt
                  have HSTP := hide hstep
                  obtain ⟨af, cf, hvf, haf, _⟩ := HMY.out.fr.slc
                  obtain ⟨gf, rfl⟩ := haf (by rw [List.length_map, HFL.out]; omega)
                  have e6 := Ow.cell (i := k) (by have h := HMY.out.fr; rw [hvf] at h; exact h) (by rw [List.length_map, HFL.out]; exact hkt)
                  rw [List.length_map, HFL.out] at hvf
                  have hfk : (f.frs.map fun i : Nat => (i : Int)).getD k 0 = ((f.frs.getD k 0 : Nat) : Int) := by
                    have h1 : k < f.frs.length := by rw [HFL.out]; exact hkt
                    simp [List.getD, h1]
                  rw [hfk] at e6
                  obtain ⟨fk, hfk2⟩ : ∃ x, f.frs.getD k 0 = x := ⟨_, rfl⟩
                  rw [hfk2] at e6 HSTP
                  have hgR : w.heap.size < gf := by
                    have h := HMY.out.fr
                    rw [hvf] at h
                    have h1 := (Ow.blk' h).1
                    have h2 := HFV.out
                    have h3 := HB.out.size
                    have h4 := HS1.out
                    omega
                  have hFR : w.heap.size < F := by have h2 := HFV.out; have h3 := HB.out.size; have h4 := HS1.out; omega
                  rw [hvf] at x6
                  clear hwl hbY ha5 hc5 hp htk hmem hcl0 hcl1 hgd hstep hm hnn hbw haf hfk hfk2
                  cases b with
                  | false =>
                    have HW2 : Hid (wlT f f.tgs f.frs = wlT f (f.tgs.drop (k + 1)) (f.frs.drop (k + 1))) := by show _ = _; rw [HWL.out, HSTP.out, if_neg (by decide)]
                    go_wp2_with fail
                    go_quiet (fail)
                    go_wp2
                    go_roundw
                    case rel => exact ⟨k + 1, by omega, by go_num, HW2.out, below_drewN HBYX.out _⟩
                    case measure => simp [intOf]; omega
                  | true =>
                    have HW2 : Hid (wlT f f.tgs f.frs = ((fk : Nat) : Int)) := by show _ = _; rw [HWL.out, HSTP.out, if_pos rfl]
                    have HE : Hid (dnA L = (.zero, 8, ((fk : Nat) : Int))) := by show _ = _; rw [HDW.out, HW2.out, if_pos (by omega)]
                    go_wp2_with fail
                    go_quiet (fail)
                    go_wp2_with fail
                    obtain ⟨Y2, hY2⟩ : ∃ W, Y.drewN nq = W := ⟨_, rfl⟩
                    have hbq : Below Y.heap.size Y Y2 := by rw [← hY2]; exact below_drewN (Below.refl _ _) _
                    have HY21 : Hid (Below W1.heap.size W1 Y2) := HBY1.out.trans (hbq.mono HBY1.out.size)
                    have x6 := cell_kept x6 hbq
                    have e6 := cell_kept e6 hbq
                    rw [hY2]
                    have r0 := (HR.out Y2 HY21.out).cell 0
                    have r1 := (HR.out Y2 HY21.out).cell 1
                    have r2 := (HR.out Y2 HY21.out).cell 2
                    have r3 := (HR.out Y2 HY21.out).cell 3
                    have r4 := (HR.out Y2 HY21.out).cell 4
                    simp only [List.getElem?_toArray, List.getElem?_cons_succ, List.getElem?_cons_zero] at r0 r1 r2 r3 r4
                    have rf0 := (HR.out Y2 HY21.out).frozen 0
                    have rf1 := (HR.out Y2 HY21.out).frozen 1
                    have rf2 := (HR.out Y2 HY21.out).frozen 2
                    have rf3 := (HR.out Y2 HY21.out).frozen 3
                    have rf4 := (HR.out Y2 HY21.out).frozen 4
                    have hne1 : F ≠ w.heap.size := by omega
                    have hne2 : gf ≠ w.heap.size := by omega
                    clear hY2 hbq
                    go_region
                    go_wp2
                    refine bodyPost_ret (results_row_tmp2 rfl _ _ _ w.heap.size 27 _ (0, 0) rfl (Blk.five (HR.out _ HY21.out) _ _ _ _ _) Tryz.underlying27 (by kernel_rfl)) rfl ?_
                    rw [HE.out]
                    exact ⟨_, _, _, rfl, lyv_zero _, (below_five (HBW.out _ HY21.out) (Nat.le_refl _) _ _ _ _ _).drew⟩
                · obtain rfl : k = ns.length := by omega
                  have hge3 : ¬ (ns.length : Int) < (ns.length : Int) := by omega
                  have HE : Hid (dnA L = (lyOf f, 0, 0)) := by
                    show _ = _
                    rw [HDW.out, hwl, List.drop_eq_nil_of_le (by rw [HTL.out]; exact Nat.le_refl _), List.drop_eq_nil_of_le (by rw [HFL.out]; exact Nat.le_refl _)]
                    rw [if_neg (by show ¬ 0 ≤ (-1 : Int); omega)]
                  subst hvt
                  clear hwl hbY ha5 hc5
                  go_wp2_with fail
                  refine (l4layout_any F bw bc bd cw' cc' cd' G f _ _ ns Y HFO.out HMY.out).mono ?_
                  rintro e Y2 ⟨v2, v3, v4, rfl, hly0, hb2⟩
                  have hly := hly0 Y2 fun _ _ _ _ h => h
                  have HLW := hide hly0
                  have HY21 : Hid (Below W1.heap.size W1 Y2) := HBY1.out.trans (hb2.mono HBY1.out.size)
                  obtain ⟨g2, k2, rfl⟩ := hly.cost.slice
                  obtain ⟨g3, k3, rfl⟩ := hly.exits.slice
                  obtain ⟨g4, k4, rfl⟩ := hly.targets.slice
                  have HLY := hide hly
                  unfold lyagg
                  obtain ⟨q2, hq2⟩ : ∃ n, (lyOf f).cost.length = n := ⟨_, rfl⟩
                  obtain ⟨q3, hq3⟩ : ∃ n, (lyOf f).exits.length = n := ⟨_, rfl⟩
                  obtain ⟨q4, hq4⟩ : ∃ n, (lyOf f).targets.length = n := ⟨_, rfl⟩
                  obtain ⟨q0, hq0⟩ : ∃ n, (lyOf f).w = n := ⟨_, rfl⟩
                  obtain ⟨q1, hq1⟩ : ∃ n, (lyOf f).h = n := ⟨_, rfl⟩
                  rw [hq2, hq3, hq4] at HLY HLW
                  rw [hq0, hq1, hq2, hq3, hq4]
                  have HQ0 := hide hq0
                  have HQ1 := hide hq1
                  have r0 := (HR.out Y2 HY21.out).cell 0
                  have r1 := (HR.out Y2 HY21.out).cell 1
                  have r2 := (HR.out Y2 HY21.out).cell 2
                  have r3 := (HR.out Y2 HY21.out).cell 3
                  have r4 := (HR.out Y2 HY21.out).cell 4
                  simp only [List.getElem?_toArray, List.getElem?_cons_succ, List.getElem?_cons_zero] at r0 r1 r2 r3 r4
                  have rf0 := (HR.out Y2 HY21.out).frozen 0
                  have rf1 := (HR.out Y2 HY21.out).frozen 1
                  have rf2 := (HR.out Y2 HY21.out).frozen 2
                  have rf3 := (HR.out Y2 HY21.out).frozen 3
                  have rf4 := (HR.out Y2 HY21.out).frozen 4
                  clear hly hly0 hb2 hq0 hq1 hq2 hq3 hq4
                  go_wp2
                  refine bodyPost_ret (results_row_tmp2 rfl _ _ _ w.heap.size 27 _ (0, 0) rfl (Blk.five (HR.out _ HY21.out) _ _ _ _ _) Tryz.underlying27 (by kernel_rfl)) rfl ?_
                  rw [HE.out]
                  refine ⟨.slice g2 q2 k2, .slice g3 q3 k3, .slice g4 q4 k4, ?_, ?_, below_five (HBW.out _ HY21.out) (Nat.le_refl _) _ _ _ _ _⟩
                  · unfold lyagg
                    rw [HQ0.out, HQ1.out]
                    rfl
                  · refine HLW.out _ fun g t cs ht hb => ?_
                    exact typed_five (HR.out _ HY21.out) hb ht _ _ _ _ _
end Go.Proofs.YtijdlbanfdhfnaaGreatDoor

/-
  The walk of spec.l2readIf.
-/
import Derived.Test.YtbiakdjpeblclaaGreatDoorJPaPKO
import Derived.Test.YtbiakdjpeblclaaGreatDoorJPaT
namespace Go.Proofs.YtbiakdjpeblclaaGreatDoor
open Go.RowKit
theorem ms_lastG {V V1:World}{B:Nat}{G:Nat→Prop}{v:Value}{ks:List Pt}{vt vp:Value}{x:Pt}(hk:KO V B G v ks)(hG:∀g,V.heap.size≤g→G g)(hv:PV V1 (fun g=>V.heap.size≤g) vt vp x)(o:Obj):Ms (V1.alloc o) (fun g=>G g∧v.ownBlock≠some g) [(vt,vp)] [x]:=by
 obtain⟨M,h1,_⟩:=hk
 exact (Ms.one (hv.mono (G':=fun g=>G g∧v.ownBlock≠some g) (fun g hg _=>⟨hG g hg,fun q=>by have:=(h1.lt g q).2;omega⟩))).gw (P:=fun _=>False) (Gw.of_below ((Below.refl _ _).alloc (Nat.le_refl _) _)) (fun _ q=>q.elim)
theorem ko_one {w:World}{B g:Nat}{G:Nat→Prop}{vt vp:Value}{x:Pt}(hb:Blk w g 45 #[vt,vp])(hg:B≤g)(h:PV w (fun k=>G k∧k≠g) vt vp x):KO w B G (.slice (some ⟨g,0,none⟩) 1 1) [x]:=
 ⟨[(vt,vp)],own_lit (n:=1) (sz:=2) hb hg rfl (by omega),(Ms.one h).mono (fun j hj _=>⟨hj.1,fun q=>by simp only[Value.ownBlock,Option.some.injEq]at q;exact hj.2 q.symm⟩)⟩
theorem RSt.bsz {w V:World}{c:PsC}{e:PsE}{p:Ps}(h:RSt w V c e p):w.heap.size+1≤V.heap.size:=h.size
theorem RSt.appK {w V V':World}{c:PsC}{e:PsE}{p:Ps}{B:Nat}{G:Nat→Prop}{v:Value}{ks:List Pt}(h:RSt w V c e p)(hk:KO V B G v ks)(hB:w.heap.size<B)(hg:V.grownBy V' v.ownBlock):RSt w V' c e p:=by
 obtain⟨M,h1,_⟩:=hk
 exact h.app h1 hB hg
theorem ko_first {V V1:World}{G:Nat→Prop}{B:Nat}{vt vp:Value}{x:Pt}(hG:∀g,V.heap.size≤g→G g)(hB:B≤V1.heap.size)(hv:PV V1 (fun g=>V.heap.size≤g) vt vp x):KO (V1.alloc (.cells #[vt,vp] 45)) B G (.slice (some ⟨V1.heap.size,0,none⟩) 1 1) [x]:=
 ko_one (Blk.new _ _ _) hB ((hv.mono (G':=fun k=>G k∧k≠V1.heap.size) (fun g hg hl=>⟨hG g hg,Nat.ne_of_lt hl⟩)).gw (P:=fun _=>False) (Gw.of_below ((Below.refl _ _).alloc (Nat.le_refl _) _)) (fun _ q=>q.elim))
def IfC (c:PsC)(e:PsE)(f m cc:Nat):Prop:=∀w p pl,pl≤5000→PsW w c e p→lft e p+1≤cc→lft e p≤m→Calls Tryz.prog 39 #[.pointer (some ⟨c.P,0,none⟩),.int .i64 (pl:Nat)] w (ExQ c e w (rIf e f (rBlock e e.T.length (rS e f m)) cc pl p))
set_option maxHeartbeats 8000000 in
set_option maxRecDepth 1000000 in
theorem if_step {c:PsC}{e:PsE}{f m cc:Nat}(hf:2*e.T.length+3≤f)(BL:BlC c e f m)(IH:IfC c e f m cc):IfC c e f m (cc+1):=fun w p pl hpl h hc hm=>by
 have HS0:=hide (RSt.start h)
 have htl:=h.tl
 have hat:=h.at_
 have hfi:=fi_le (e:=e) p
 have hBI:=(bd_if e f (fun q=>bd_block e (bd_stat e f m) e.T.length q) (cc+1) pl p).len
 have HE:Hid (rIf e f (rBlock e e.T.length (rS e f m)) (cc+1) pl p=(let x:=rE e f 1 p;let y:=rBlock e e.T.length (rS e f m) x.2;if e.is y.2 (⟨#[101,108,115,101]⟩:ByteArray) then (if e.is y.2.on (⟨#[105,102]⟩:ByteArray) then (ptN (ndK 6) pl [x.1,y.1,(rIf e f (rBlock e e.T.length (rS e f m)) cc (e.place y.2.on) y.2.on.on).1],(rIf e f (rBlock e e.T.length (rS e f m)) cc (e.place y.2.on) y.2.on.on).2) else (ptN (ndK 6) pl [x.1,y.1,(rBlock e e.T.length (rS e f m) y.2.on).1],(rBlock e e.T.length (rS e f m) y.2.on).2)) else (ptN (ndK 6) pl [x.1,y.1],y.2))):=rfl
 obtain⟨W0,hW0⟩:∃W,w.alloc (.cells #[.slice none 0 0,.slice none 0 0] 45)=W:=⟨_,rfl⟩
 rw[hW0]at HS0
 have hMX:=(mv_expr e f).1 1 p
 have HC:=hide (ex_any HS0.out.ps hf)
 obtain⟨X,hX⟩:∃X,rE e f 1 p=X:=⟨_,rfl⟩
 rw[hX]at HC HE hMX
 have hMY:=mv_block e (mv_stat e f m) e.T.length X.2
 have HCY:Hid (∀V,PsW V c e X.2→Calls Tryz.prog 38 #[.pointer (some ⟨c.P,0,none⟩)] V (ExQ c e V (rBlock e e.T.length (rS e f m) X.2))):=fun V hV=>BL V X.2 hV (by have:=hMX.le;unfold lft at hm ⊢;omega)
 obtain⟨Y,hY⟩:∃Y,rBlock e e.T.length (rS e f m) X.2=Y:=⟨_,rfl⟩
 rw[hY]at HCY hMY
 have hMP:=hMX.trans hMY
 have HBL:Hid (∀V q,Mv e p q→PsW V c e q→Calls Tryz.prog 38 #[.pointer (some ⟨c.P,0,none⟩)] V (ExQ c e V (rBlock e e.T.length (rS e f m) q))):=fun V q hq hV=>BL V q hV (by have:=hq.le;unfold lft at hm ⊢;omega)
 have HIH:Hid (∀V q pl,Mv e p q→p.at_+1≤q.at_→q.at_≤e.T.length→pl≤5000→PsW V c e q→Calls Tryz.prog 39 #[.pointer (some ⟨c.P,0,none⟩),.int .i64 (pl:Nat)] V (ExQ c e V (rIf e f (rBlock e e.T.length (rS e f m)) cc pl q))):=fun V q pl hq h1 h2 hp hV=>IH V q pl hp hV (by unfold lft at hc ⊢;omega) (by have:=hq.le;unfold lft at hm ⊢;omega)
 simp only[hY]at HE
 have HMP:=hide hMP
 clear h IH BL hX hY hm hc hMX hMY hMP
 go_enter Tryz.func39,Tryz.ntmps39
 go_wp2_with fail
 refine HC.out.mono ?_
 rintro r V1 ⟨vt,vp,rfl,hv,hq⟩
 have hlt:=HS0.out.lt
 have HS1:=hide (HS0.out.rd hq)
 obtain⟨xa,xc,xb,xd,rfl,rfl,_,_⟩:=hv.slc
 have HK2:=hide (ko_first (G:=fun g=>w.heap.size<g) (B:=w.heap.size+1) (fun g hg=>Nat.lt_of_lt_of_le HS0.out.size hg) HS1.out.bsz hv)
 have HS2:=hide (HS1.out.below ((Below.refl V1.heap.size V1).alloc (Nat.le_refl _) (.cells #[.slice (some ⟨xa,0,none⟩) X.1.t.length xc,.slice (some ⟨xb,0,none⟩) X.1.t.length xd] 45)))
 clear hv hq HS0 HS1 HC hW0
 go_wp2_with fail
 refine (HCY.out _ HS2.out.ps).mono ?_
 rintro r V2 ⟨vt,vp,rfl,hv,hq⟩
 have HSx:=hide (HS2.out.rd hq)
 have HKx:=hide (HK2.out.rdR (Nat.lt_succ_self _) hlt hq)
 obtain⟨xa2,xc2,xb2,xd2,rfl,rfl,_,_⟩:=hv.slc
 have HMx:=hide (ms_lastG HK2.out (fun g hg=>Nat.lt_of_lt_of_le HS2.out.size hg) hv (.cells #[.slice (some ⟨xa2,0,none⟩) Y.1.t.length xc2,.slice (some ⟨xb2,0,none⟩) Y.1.t.length xd2] 45))
 have hbA:Below V2.heap.size V2 (V2.alloc (.cells #[.slice (some ⟨xa2,0,none⟩) Y.1.t.length xc2,.slice (some ⟨xb2,0,none⟩) Y.1.t.length xd2] 45)):=(Below.refl _ _).alloc (Nat.le_refl _) _
 have HBx:=hide (Cs.of_blk (Blk.new V2 45 #[.slice (some ⟨xa2,0,none⟩) Y.1.t.length xc2,.slice (some ⟨xb2,0,none⟩) Y.1.t.length xd2]))
 have HSy:=hide (HSx.out.below hbA)
 have HKy:=hide (HKx.out.bel hbA)
 clear hv hq hbA HS2 HK2 HSx HKx
 go_wp2_with (at_builtin;refine wp_appKO rfl (.tmp 10) (.tmp 13) rfl (w.heap.size+1) rfl HKy.out V2.heap.size 1 1 rfl rfl HMx.out HBx.out (by simp) (HSy.out.bsz) ?_)
 intro v' V2b hk4 hg4
 have HS3:=hide (HSy.out.appK HKy.out (Nat.lt_succ_self _) hg4)
 have HK3:=hide hk4
 obtain⟨wa2,wc2,rfl⟩:=hk4.slc
 clear hk4 hg4 HSy HKy HMx HBx
 go_wp2_with fail
 refine (l2got_any (⟨#[101,108,115,101]⟩:ByteArray) HS3.out.ps).mono ?_
 rintro r V3 ⟨rfl,hq⟩
 have HS4:=hide (HS3.out.rd hq)
 have HK4:=hide (HK3.out.rdR (Nat.lt_succ_self _) hlt hq)
 clear hq HS3 HK3
 cases hi:e.is Y.2 (⟨#[101,108,115,101]⟩:ByteArray) with
 |false=>
  rw[hi,if_neg Bool.false_ne_true]at HS4
  simp only[hi,Bool.false_eq_true,if_false]at HE
  have hkl:1+nsl [X.1,Y.1]≤1000000:=by rw[HE.out]at hBI;simp only[ptN_len]at hBI;omega
  have HPR:=hide (HK4.out.pr (fun g hg=>Nat.lt_of_succ_le hg))
  clear hBI HK4
  go_wp2_with fail
  refine (l2node_any (m:=⟨ndK 6,.slice none 0 0,.slice none 0 0,.slice none 0 0⟩) (pl:=pl) (G:=fun g=>w.heap.size<g) (nv_plain _ _ 6 0) (HPR.out) (fun g hg=>Nat.lt_of_lt_of_le HS4.out.size hg) (hkl) (by simp)).mono ?_
  rintro r Vz ⟨vt,vp,rfl,hv,hbz⟩
  have HF:=hide (HS4.out.below hbz)
  obtain⟨ga,gc,gb,gd,rfl,rfl,_,_⟩:=hv.slc
  have HV:=hide hv
  have r0:=HF.out.res.cell 0
  have r1:=HF.out.res.cell 1
  have f0:=HF.out.res.frozen 0
  have f1:=HF.out.res.frozen 1
  simp only[List.getElem?_toArray,List.getElem?_cons_succ,List.getElem?_cons_zero]at r0 r1
  clear hv hbz
  go_wp2_with fail
  refine bodyPost_ret (results_one rfl _ _ _ w.heap.size 45 _ (0,0) rfl ((HF.out.res.set 0 _).set 1 _) Tryz.underlying45 (by kernel_rfl)) rfl ?_
  rw[HE.out]
  exact HF.out.fin HV.out
 |true=>
  rw[hi,if_pos rfl]at HS4
  simp only[hi,if_true]at HE
  have hon:=(mv_on (is_kind hi)).1
  have hk1:=(kind_pos (is_kind hi)).2
  have HMO:=hide (HMP.out.trans hon)
  have hpl2:=PsE.place_le HS4.out.ps
  have HPL:=hide (l2place_any HS4.out.ps)
  obtain⟨pl2,hpl2E⟩:∃q,e.place Y.2.on=q:=⟨_,rfl⟩
  rw[hpl2E]at hpl2 HPL HE
  clear hon hpl2E
  go_wp2_with fail
  refine HPL.out.mono ?_
  rintro r V4 ⟨rfl,m0,rfl⟩
  have HS5:=hide (HS4.out.below (below_drewN (Below.refl _ _) m0))
  have HK5:=hide (HK4.out.bel (below_drewN (Below.refl _ _) m0))
  clear HS4 HK4 HPL
  go_wp2_with fail
  refine (l2got_any (⟨#[105,102]⟩:ByteArray) HS5.out.ps).mono ?_
  rintro r V5 ⟨rfl,hq⟩
  have HS6:=hide (HS5.out.rd hq)
  have HK6:=hide (HK5.out.rdR (Nat.lt_succ_self _) hlt hq)
  clear hq HS5 HK5
  cases hj:e.is Y.2.on (⟨#[105,102]⟩:ByteArray) with
  |true=>
   rw[hj,if_pos rfl]at HS6
   simp only[hj,if_true]at HE
   have hon2:=(mv_on (is_kind hj)).1
   have hk2:=(kind_pos (is_kind hj)).2
   have HCZ:=hide (fun V hV=>HIH.out V Y.2.on.on pl2 (HMO.out.trans hon2) (by have:=HMP.out.le;show p.at_+1≤Y.2.at_+1+1;omega) (by show Y.2.at_+1+1≤_;have:Y.2.on.at_=Y.2.at_+1:=rfl;omega) hpl2 hV)
   obtain⟨Z,hZ⟩:∃Z,rIf e f (rBlock e e.T.length (rS e f m)) cc pl2 Y.2.on.on=Z:=⟨_,rfl⟩
   simp only[hZ]at HCZ HE
   clear hZ hon2
   go_wp2_with fail
   refine (HCZ.out _ HS6.out.ps).mono ?_
   rintro r V7 ⟨vt,vp,rfl,hv,hq⟩
   have HSx:=hide (HS6.out.rd hq)
   have HKx:=hide (HK6.out.rdR (Nat.lt_succ_self _) hlt hq)
   obtain⟨xa7,xc7,xb7,xd7,rfl,rfl,_,_⟩:=hv.slc
   have HMx:=hide (ms_lastG HK6.out (fun g hg=>Nat.lt_of_lt_of_le HS6.out.size hg) hv (.cells #[.slice (some ⟨xa7,0,none⟩) Z.1.t.length xc7,.slice (some ⟨xb7,0,none⟩) Z.1.t.length xd7] 45))
   have hbA:Below V7.heap.size V7 (V7.alloc (.cells #[.slice (some ⟨xa7,0,none⟩) Z.1.t.length xc7,.slice (some ⟨xb7,0,none⟩) Z.1.t.length xd7] 45)):=(Below.refl _ _).alloc (Nat.le_refl _) _
   have HBx:=hide (Cs.of_blk (Blk.new V7 45 #[.slice (some ⟨xa7,0,none⟩) Z.1.t.length xc7,.slice (some ⟨xb7,0,none⟩) Z.1.t.length xd7]))
   have HSy:=hide (HSx.out.below hbA)
   have HKy:=hide (HKx.out.bel hbA)
   clear hv hq hbA HS6 HK6 HSx HKx
   go_wp2_with (at_builtin;refine wp_appKO rfl (.tmp 21) (.tmp 25) rfl (w.heap.size+1) rfl HKy.out V7.heap.size 1 1 rfl rfl HMx.out HBx.out (by simp) (HSy.out.bsz) ?_)
   intro v' V7b hk4 hg4
   have HS7:=hide (HSy.out.appK HKy.out (Nat.lt_succ_self _) hg4)
   have HK7:=hide hk4
   obtain⟨wa7,wc7,rfl⟩:=hk4.slc
   clear hk4 hg4 HSy HKy HMx HBx
   have hkl:1+nsl [X.1,Y.1,Z.1]≤1000000:=by rw[HE.out]at hBI;simp only[ptN_len]at hBI;omega
   have HPR:=hide (HK7.out.pr (fun g hg=>Nat.lt_of_succ_le hg))
   clear hBI HK7
   go_wp2_with fail
   refine (l2node_any (m:=⟨ndK 6,.slice none 0 0,.slice none 0 0,.slice none 0 0⟩) (pl:=pl) (G:=fun g=>w.heap.size<g) (nv_plain _ _ 6 0) (HPR.out) (fun g hg=>Nat.lt_of_lt_of_le HS7.out.size hg) (hkl) (by simp)).mono ?_
   rintro r Vz ⟨vt,vp,rfl,hv,hbz⟩
   have HF:=hide (HS7.out.below hbz)
   obtain⟨ga,gc,gb,gd,rfl,rfl,_,_⟩:=hv.slc
   have HV:=hide hv
   have r0:=HF.out.res.cell 0
   have r1:=HF.out.res.cell 1
   have f0:=HF.out.res.frozen 0
   have f1:=HF.out.res.frozen 1
   simp only[List.getElem?_toArray,List.getElem?_cons_succ,List.getElem?_cons_zero]at r0 r1
   clear hv hbz
   go_wp2_with fail
   refine bodyPost_ret (results_one rfl _ _ _ w.heap.size 45 _ (0,0) rfl ((HF.out.res.set 0 _).set 1 _) Tryz.underlying45 (by kernel_rfl)) rfl ?_
   rw[HE.out]
   exact HF.out.fin HV.out
  |false=>
   rw[hj,if_neg Bool.false_ne_true]at HS6
   simp only[hj,Bool.false_eq_true,if_false]at HE
   have HCZ:=hide (fun V hV=>HBL.out V Y.2.on HMO.out hV)
   obtain⟨Z,hZ⟩:∃Z,rBlock e e.T.length (rS e f m) Y.2.on=Z:=⟨_,rfl⟩
   simp only[hZ]at HCZ HE
   clear hZ
   go_wp2_with fail
   refine (HCZ.out _ HS6.out.ps).mono ?_
   rintro r V7 ⟨vt,vp,rfl,hv,hq⟩
   have HSx:=hide (HS6.out.rd hq)
   have HKx:=hide (HK6.out.rdR (Nat.lt_succ_self _) hlt hq)
   obtain⟨xa7,xc7,xb7,xd7,rfl,rfl,_,_⟩:=hv.slc
   have HMx:=hide (ms_lastG HK6.out (fun g hg=>Nat.lt_of_lt_of_le HS6.out.size hg) hv (.cells #[.slice (some ⟨xa7,0,none⟩) Z.1.t.length xc7,.slice (some ⟨xb7,0,none⟩) Z.1.t.length xd7] 45))
   have hbA:Below V7.heap.size V7 (V7.alloc (.cells #[.slice (some ⟨xa7,0,none⟩) Z.1.t.length xc7,.slice (some ⟨xb7,0,none⟩) Z.1.t.length xd7] 45)):=(Below.refl _ _).alloc (Nat.le_refl _) _
   have HBx:=hide (Cs.of_blk (Blk.new V7 45 #[.slice (some ⟨xa7,0,none⟩) Z.1.t.length xc7,.slice (some ⟨xb7,0,none⟩) Z.1.t.length xd7]))
   have HSy:=hide (HSx.out.below hbA)
   have HKy:=hide (HKx.out.bel hbA)
   clear hv hq hbA HS6 HK6 HSx HKx
   go_wp2_with (at_builtin;refine wp_appKO rfl (.tmp 27) (.tmp 30) rfl (w.heap.size+1) rfl HKy.out V7.heap.size 1 1 rfl rfl HMx.out HBx.out (by simp) (HSy.out.bsz) ?_)
   intro v' V7b hk4 hg4
   have HS7:=hide (HSy.out.appK HKy.out (Nat.lt_succ_self _) hg4)
   have HK7:=hide hk4
   obtain⟨wa7,wc7,rfl⟩:=hk4.slc
   clear hk4 hg4 HSy HKy HMx HBx
   have hkl:1+nsl [X.1,Y.1,Z.1]≤1000000:=by rw[HE.out]at hBI;simp only[ptN_len]at hBI;omega
   have HPR:=hide (HK7.out.pr (fun g hg=>Nat.lt_of_succ_le hg))
   clear hBI HK7
   go_wp2_with fail
   refine (l2node_any (m:=⟨ndK 6,.slice none 0 0,.slice none 0 0,.slice none 0 0⟩) (pl:=pl) (G:=fun g=>w.heap.size<g) (nv_plain _ _ 6 0) (HPR.out) (fun g hg=>Nat.lt_of_lt_of_le HS7.out.size hg) (hkl) (by simp)).mono ?_
   rintro r Vz ⟨vt,vp,rfl,hv,hbz⟩
   have HF:=hide (HS7.out.below hbz)
   obtain⟨ga,gc,gb,gd,rfl,rfl,_,_⟩:=hv.slc
   have HV:=hide hv
   have r0:=HF.out.res.cell 0
   have r1:=HF.out.res.cell 1
   have f0:=HF.out.res.frozen 0
   have f1:=HF.out.res.frozen 1
   simp only[List.getElem?_toArray,List.getElem?_cons_succ,List.getElem?_cons_zero]at r0 r1
   clear hv hbz
   go_wp2_with fail
   refine bodyPost_ret (results_one rfl _ _ _ w.heap.size 45 _ (0,0) rfl ((HF.out.res.set 0 _).set 1 _) Tryz.underlying45 (by kernel_rfl)) rfl ?_
   rw[HE.out]
   exact HF.out.fin HV.out
def set6w (V:World)(b:Nat)(x0 x1 x2 x3 x4 x5:Value):World:=(((((V.setCell ⟨b,0,none⟩ x0).setCell ⟨b,1,none⟩ x1).setCell ⟨b,2,none⟩ x2).setCell ⟨b,3,none⟩ x3).setCell ⟨b,4,none⟩ x4).setCell ⟨b,5,none⟩ x5
theorem Blk.set6w {V:World}{b:Nat}{t:TypeId}{y0 y1 y2 y3 y4 y5:Value}(h:Blk V b t #[y0,y1,y2,y3,y4,y5])(x0 x1 x2 x3 x4 x5:Value):Blk (set6w V b x0 x1 x2 x3 x4 x5) b t #[x0,x1,x2,x3,x4,x5]:=(((((h.set 0 x0).set 1 x1).set 2 x2).set 3 x3).set 4 x4).set 5 x5
theorem size_set6w (V:World)(b:Nat)(x0 x1 x2 x3 x4 x5:Value):(set6w V b x0 x1 x2 x3 x4 x5).heap.size=V.heap.size:=by unfold Go.Proofs.YtbiakdjpeblclaaGreatDoor.set6w;simp
theorem RSt.other {w V:World}{c:PsC}{e:PsE}{p:Ps}(h:RSt w V c e p){b:Nat}(hb:w.heap.size<b)(k:Nat)(v:Value):RSt w (V.setCell ⟨b,k,none⟩ v) c e p:=by
 have g1:=Gw.set V b k v
 have hp:=h.lt
 have hs:=h.ps
 refine⟨⟨hs.blk.other k v (by omega),hs.sa,fun j hj=>g1.cell (hs.src j hj) (by show ¬c.b=b;have:=(hs.sa (by omega)).2;omega),hs.cap,hs.ta,fun i hi=>?_,hs.tin,hs.tl,hs.szl,hs.at_,hs.bad⟩,h.gw.trans g1 (fun j hj q=>by omega),h.res.other k v (by omega),hp⟩
 have n:¬c.tb=b:=by have:=(hs.ta (by omega)).2;omega
 exact⟨g1.cell (hs.tok i hi).1 n,g1.cell (hs.tok i hi).2.1 n,g1.cell (hs.tok i hi).2.2 n⟩
structure FSt (w V:World)(c:PsC)(e:PsE)(p:Ps)(O K:Nat)(d:Nd)(nv:Value):Prop where
 st:RSt w V c e p
 nb:Blk V O 51 #[.int .i64 d.kind,.int .i64 d.n,.slice none 0 0,nv,.slice none 0 0,.int .i64 d.count]
 lo:w.heap.size<O∧O<K∧K≤V.heap.size
 ok:(⟨d,.slice none 0 0,nv,.slice none 0 0⟩:Nv).Ok V (fun g=>w.heap.size<g∧g≠O∧g<K)
theorem FSt.rd {w V V':World}{c:PsC}{e:PsE}{p p':Ps}{O K:Nat}{d:Nd}{nv:Value}(h:FSt w V c e p O K d nv)(hq:RdQ c e p' V V'):FSt w V' c e p' O K d nv:=by
 have h1:=h.lo
 have h2:=h.st.lt
 exact⟨h.st.rd hq,hq.2.blk h.nb (by show ¬O=c.P;omega),⟨h1.1,h1.2.1,Nat.le_trans h1.2.2 hq.2.size⟩,h.ok.gw hq.2 (fun k hk q=>by omega)⟩
theorem FSt.below {w V V':World}{c:PsC}{e:PsE}{p:Ps}{O K:Nat}{d:Nd}{nv:Value}(h:FSt w V c e p O K d nv)(hb:Below V.heap.size V V'):FSt w V' c e p O K d nv:=
 ⟨h.st.below hb,h.nb.below hb,⟨h.lo.1,h.lo.2.1,Nat.le_trans h.lo.2.2 hb.size⟩,h.ok.gw (P:=fun _=>False) (Gw.of_below hb) (fun _ q=>q.elim)⟩
theorem FSt.size {w V:World}{c:PsC}{e:PsE}{p:Ps}{O K:Nat}{d:Nd}{nv:Value}(h:FSt w V c e p O K d nv):w.heap.size<V.heap.size:=h.st.size
theorem FSt.bsz {w V:World}{c:PsC}{e:PsE}{p:Ps}{O K:Nat}{d:Nd}{nv:Value}(h:FSt w V c e p O K d nv):K≤V.heap.size:=h.lo.2.2
theorem FSt.appK {w V V':World}{c:PsC}{e:PsE}{p:Ps}{O K B:Nat}{d:Nd}{nv:Value}{G:Nat→Prop}{v:Value}{ks:List Pt}(h:FSt w V c e p O K d nv)(hk:KO V B G v ks)(hB:K≤B)(hg:V.grownBy V' v.ownBlock):FSt w V' c e p O K d nv:=by
 have h1:=h.lo
 have h2:=h.st.appK hk (by omega) hg
 obtain⟨M,ho,_⟩:=hk
 have hgw:=Gw.own_of ho hg
 exact⟨h2,hgw.blk h.nb (fun q=>by have:=(ho.lt _ q).1;omega),⟨h1.1,h1.2.1,Nat.le_trans h1.2.2 hgw.size⟩,h.ok.gw hgw (fun k hk q=>by have:=(ho.lt _ hk).1;omega)⟩
theorem FSt.setK {w V:World}{c:PsC}{e:PsE}{p:Ps}{O K:Nat}{d:Nd}{nv:Value}(h:FSt w V c e p O K d nv)(k:Int):FSt w (V.setCell ⟨O,0,none⟩ (.int .i64 k)) c e p O K { d with kind:=k } nv:=by
 have h1:=h.lo
 have h2:=h.ok.gw (Gw.set V O 0 (.int .i64 k)) (fun j hj q=>by omega)
 exact⟨h.st.other h1.1 0 _,h.nb.set 0 _,⟨h1.1,h1.2.1,by rw[World.size_setCell];exact h1.2.2⟩,⟨h2.text,h2.names,h2.types,h2.b1,h2.b2,h2.b3,h2.b4⟩⟩
theorem FSt.setN {w V:World}{c:PsC}{e:PsE}{p:Ps}{O K:Nat}{d:Nd}{nv:Value}(h:FSt w V c e p O K d nv)(k:Int):FSt w (V.setCell ⟨O,1,none⟩ (.int .i64 k)) c e p O K { d with n:=k } nv:=by
 have h1:=h.lo
 have h2:=h.ok.gw (Gw.set V O 1 (.int .i64 k)) (fun j hj q=>by omega)
 exact⟨h.st.other h1.1 1 _,h.nb.set 1 _,⟨h1.1,h1.2.1,by rw[World.size_setCell];exact h1.2.2⟩,⟨h2.text,h2.names,h2.types,h2.b1,h2.b2,h2.b3,h2.b4⟩⟩
theorem KO.setO {V:World}{O K i:Nat}{x v:Value}{ks:List Pt}(h:KO V K (fun g=>K≤g) v ks)(hO:O<K):KO (V.setCell ⟨O,i,none⟩ x) K (fun g=>K≤g) v ks:=
 h.gw (Gw.set V O i x) (fun k hk=>by rw[hk];omega) (fun g hg=>hg)
theorem KO.rdF {w V V':World}{c:PsC}{e:PsE}{p p':Ps}{O K:Nat}{d:Nd}{nv v:Value}{ks:List Pt}(h:KO V K (fun g=>K≤g) v ks)(hf:FSt w V c e p O K d nv)(hq:RdQ c e p' V V'):KO V' K (fun g=>K≤g) v ks:=by
 have h1:=hf.lo
 have h2:=hf.st.lt
 exact h.gw hq.2 (fun k hk=>by rw[hk];omega) (fun g hg=>hg)
theorem KO.lower {V:World}{B B':Nat}{G G':Nat→Prop}{v:Value}{ks:List Pt}(h:KO V B G v ks)(hB:B'≤B)(hG:∀g,G g→G' g):KO V B' G' v ks:=by
 obtain⟨M,h1,h2⟩:=h
 exact⟨M,own_base h1 hB,h2.mono (fun g hg _=>⟨hG g hg.1,hg.2⟩)⟩
theorem RSt.set6w {w V:World}{c:PsC}{e:PsE}{p:Ps}(h:RSt w V c e p){b:Nat}(hb:w.heap.size<b)(x0 x1 x2 x3 x4 x5:Value):RSt w (set6w V b x0 x1 x2 x3 x4 x5) c e p:=(((((h.other hb 0 x0).other hb 1 x1).other hb 2 x2).other hb 3 x3).other hb 4 x4).other hb 5 x5
theorem gw_set6w (V:World)(b:Nat)(x0 x1 x2 x3 x4 x5:Value):Gw (· = b) V (set6w V b x0 x1 x2 x3 x4 x5):=(((((Gw.set V b 0 x0).trans (Gw.set _ b 1 x1) (fun _ _ q=>q)).trans (Gw.set _ b 2 x2) (fun _ _ q=>q)).trans (Gw.set _ b 3 x3) (fun _ _ q=>q)).trans (Gw.set _ b 4 x4) (fun _ _ q=>q)).trans (Gw.set _ b 5 x5) (fun _ _ q=>q)
theorem FSt.start {w V:World}{c:PsC}{e:PsE}{p:Ps}(h:RSt w V c e p):FSt w (set6w (V.alloc (.cells #[.int .i64 0,.int .i64 0,.slice none 0 0,.slice none 0 0,.slice none 0 0,.int .i64 0] 51)) V.heap.size (.int .i64 0) (.int .i64 0) (.slice none 0 0) (.slice none 0 0) (.slice none 0 0) (.int .i64 0)) c e p V.heap.size (V.heap.size+1) (ndK 0) (.slice none 0 0):=
 ⟨(h.below ((Below.refl _ _).alloc (Nat.le_refl _) _)).set6w h.size _ _ _ _ _ _,(Blk.new V 51 #[.int .i64 0,.int .i64 0,.slice none 0 0,.slice none 0 0,.slice none 0 0,.int .i64 0]).set6w _ _ _ _ _ _,⟨h.size,Nat.lt_succ_self _,by rw[size_set6w,World.size_alloc];exact Nat.le_refl _⟩,nv_plain _ _ 0 0⟩
theorem FSt.named {w V V1:World}{c:PsC}{e:PsE}{p:Ps}{O K:Nat}{d:Nd}{nv u:Value}{s:ByteArray}{k:Int}(h:FSt w V1 c e p O K d nv)(hu:BG V1 (fun g=>V.heap.size≤g) u s)(hV:O<V.heap.size)(hs:s.size≤1048576):
 FSt w (set6w (V1.alloc (.cells #[u] 22)) O (.int .i64 k) (.int .i64 0) (.slice none 0 0) (.slice (some ⟨V1.heap.size,0,none⟩) 1 1) (.slice none 0 0) (.int .i64 0)) c e p O (V1.heap.size+1) { ndK k with names:=[s] } (.slice (some ⟨V1.heap.size,0,none⟩) 1 1):=by
 have h1:=h.lo
 have h0:=h.nb.lt
 have hb:Below V1.heap.size V1 (V1.alloc (.cells #[u] 22)):=(Below.refl _ _).alloc (Nat.le_refl _) _
 have hn:=(nv_name (k:=k) (Blk.new V1 22 #[u]) (G:=fun g=>w.heap.size<g∧g≠O∧g<V1.heap.size+1) ⟨by omega,by omega,Nat.lt_succ_self _⟩ ((hu.mono (G':=fun g=>w.heap.size<g∧g≠O∧g<V1.heap.size+1) (fun g hg hl=>⟨by omega,by omega,Nat.lt_succ_of_lt hl⟩)).gw (P:=fun _=>False) (Gw.of_below hb) (fun _ q=>q.elim)) hs)
 exact⟨(h.st.below hb).set6w h1.1 _ _ _ _ _ _,(h.nb.below hb).set6w _ _ _ _ _ _,⟨h1.1,by omega,by rw[size_set6w,World.size_alloc];exact Nat.le_refl _⟩,hn.gw (gw_set6w _ O _ _ _ _ _ _) (fun j hj q=>by omega)⟩
theorem FSt.forS {w V V2:World}{c:PsC}{e:PsE}{p:Ps}{u:Value}{s:ByteArray}{k:Int}(h:RSt w V2 c e p)(hu:BG V2 (fun g=>V.heap.size≤g) u s)(hV:w.heap.size<V.heap.size)(hs:s.size≤1048576):
 FSt w (set6w ((V2.alloc (.cells #[u] 22)).alloc (.cells #[.int .i64 0,.int .i64 0,.slice none 0 0,.slice none 0 0,.slice none 0 0,.int .i64 0] 51)) (V2.heap.size+1) (.int .i64 k) (.int .i64 0) (.slice none 0 0) (.slice (some ⟨V2.heap.size,0,none⟩) 1 1) (.slice none 0 0) (.int .i64 0)) c e p (V2.heap.size+1) (V2.heap.size+2) { ndK k with names:=[s] } (.slice (some ⟨V2.heap.size,0,none⟩) 1 1):=by
 have h0:=h.size
 have hb:Below V2.heap.size V2 (V2.alloc (.cells #[u] 22)):=(Below.refl _ _).alloc (Nat.le_refl _) _
 have hb2:Below (V2.alloc (.cells #[u] 22)).heap.size (V2.alloc (.cells #[u] 22)) ((V2.alloc (.cells #[u] 22)).alloc (.cells #[.int .i64 0,.int .i64 0,.slice none 0 0,.slice none 0 0,.slice none 0 0,.int .i64 0] 51)):=(Below.refl _ _).alloc (Nat.le_refl _) _
 have hO:Blk ((V2.alloc (.cells #[u] 22)).alloc (.cells #[.int .i64 0,.int .i64 0,.slice none 0 0,.slice none 0 0,.slice none 0 0,.int .i64 0] 51)) (V2.heap.size+1) 51 #[.int .i64 0,.int .i64 0,.slice none 0 0,.slice none 0 0,.slice none 0 0,.int .i64 0]:=by
  have:=Blk.new (V2.alloc (.cells #[u] 22)) 51 #[.int .i64 0,.int .i64 0,.slice none 0 0,.slice none 0 0,.slice none 0 0,.int .i64 0]
  rwa [World.size_alloc]at this
 have hn:=(nv_name (k:=k) ((Blk.new V2 22 #[u]).below hb2) (G:=fun g=>w.heap.size<g∧g≠V2.heap.size+1∧g<V2.heap.size+2) ⟨by omega,by omega,by omega⟩ (((hu.mono (G':=fun g=>w.heap.size<g∧g≠V2.heap.size+1∧g<V2.heap.size+2) (fun g hg hl=>⟨by omega,by omega,by omega⟩)).gw (P:=fun _=>False) (Gw.of_below hb) (fun _ q=>q.elim)).gw (P:=fun _=>False) (Gw.of_below hb2) (fun _ q=>q.elim)) hs)
 exact⟨((h.below hb).below hb2).set6w (by omega) _ _ _ _ _ _,hO.set6w _ _ _ _ _ _,⟨by omega,by omega,by rw[size_set6w,World.size_alloc,World.size_alloc];exact Nat.le_refl _⟩,hn.gw (gw_set6w _ _ _ _ _ _ _ _) (fun j hj q=>by omega)⟩
end Go.Proofs.YtbiakdjpeblclaaGreatDoor

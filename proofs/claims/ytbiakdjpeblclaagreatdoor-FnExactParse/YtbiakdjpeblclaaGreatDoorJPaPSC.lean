/-
  The walk of spec.l2readStat: calls.
-/
import Derived.Test.YtbiakdjpeblclaaGreatDoorJPaPSS
import Derived.Test.YtbiakdjpeblclaaGreatDoorJPaT
namespace Go.Proofs.YtbiakdjpeblclaaGreatDoor
open Go.RowKit
set_option maxHeartbeats 8000000 in
set_option maxRecDepth 1000000 in
theorem stat_call {w:World}{c:PsC}{e:PsE}{p:Ps}{f:Nat}(h:PsW w c e p)(hf:2*e.T.length+3≤f)(n0:e.is p (⟨#[105,102]⟩:ByteArray)=false)(n1:e.is p (⟨#[102,111,114]⟩:ByteArray)=false)(n2:e.is p (⟨#[108,101,116]⟩:ByteArray)=false)(h1:e.is p (⟨#[99,97,108,108]⟩:ByteArray)=true):
 Calls Tryz.prog 19 #[.pointer (some ⟨c.P,0,none⟩)] w (ExQ c e w (rFlat e f p)):=by
 have HS0:=hide (RSt.start h)
 have htl:=h.tl
 have hat:=h.at_
 have hpl:=PsE.place_le h
 have HPL:=hide (l2place_any (RSt.start h).ps)
 have hfi:=fi_le (e:=e) p
 have hnu:nu p≤1:=by unfold nu;split<;>omega
 have hBF:=(bd_flat e f p).len
 have HE:Hid (rFlat e f p=rEnd e { ndK 4 with names:=[(e.ident p.on).1] } (e.place p) ((rArgs e f e.T.length [] (e.want (e.ident p.on).2 (⟨#[40]⟩:ByteArray))).1,{ (e.want (rArgs e f e.T.length [] (e.want (e.ident p.on).2 (⟨#[40]⟩:ByteArray))).2 (⟨#[41]⟩:ByteArray)) with long:=(e.want (rArgs e f e.T.length [] (e.want (e.ident p.on).2 (⟨#[40]⟩:ByteArray))).2 (⟨#[41]⟩:ByteArray)).long||decide (10<(rArgs e f e.T.length [] (e.want (e.ident p.on).2 (⟨#[40]⟩:ByteArray))).1.length) })):=by
  show _=_
  unfold rFlat
  rw[if_neg (by rw[n2];exact Bool.false_ne_true),if_pos h1]
 obtain⟨W0,hW0⟩:∃W,w.alloc (.cells #[.slice none 0 0,.slice none 0 0] 45)=W:=⟨_,rfl⟩
 rw[hW0]at HS0 HPL
 obtain⟨pl,hplE⟩:∃q,e.place p=q:=⟨_,rfl⟩
 rw[hplE]at hpl HPL HE
 rw[HE.out]at hBF ⊢
 simp only[rEnd,ptN_len]at hBF
 have HBF:=hide hBF
 clear h hplE hBF
 have hk1:=(kind_pos (is_kind h1)).2
 have hMI:=((mv_on (is_kind h1)).1.trans (mv_ident e p.on).1).trans (mv_want e _ (⟨#[40]⟩:ByteArray)).1
 have hMI2:=((mv_ident e p.on).1.trans (mv_want e _ (⟨#[40]⟩:ByteArray)).1).le
 have pgx:∀q,Pg q (rE e f 1 q).2:=fun q=>by
  obtain⟨f',rfl⟩:∃f',f=f'+2:=⟨f - 2,by omega⟩
  exact pg_expr e f' 1 q
 obtain⟨I,hI⟩:∃I,e.ident p.on=I:=⟨_,rfl⟩
 rw[hI]at HBF hMI hMI2 ⊢
 have HIE:=hide hI
 obtain⟨P1,hP1⟩:∃q,e.want I.2 (⟨#[40]⟩:ByteArray)=q:=⟨_,rfl⟩
 rw[hP1]at HBF hMI hMI2 ⊢
 have HPE:=hide hP1
 obtain⟨F,hF⟩:∃F,rArgs e f e.T.length [] P1=F:=⟨_,rfl⟩
 rw[hF]at HBF ⊢
 have HFE:=hide hF
 have HN:Hid (lft e P1+1≤e.T.length):=by
  have h0:p.at_+1≤P1.at_:=hMI2
  show _≤_
  unfold lft;omega
 clear hI hP1 hF hMI hMI2
 go_enter Tryz.func19,Tryz.ntmps19
 go_wp2_with fail
 refine HPL.out.mono ?_
 rintro r V ⟨rfl,m0,rfl⟩
 have HS1:=hide (HS0.out.below (below_drewN (Below.refl _ _) m0))
 clear HPL hW0 HS0
 go_wp2_with fail
 refine (l2got_any (⟨#[105,102]⟩:ByteArray) HS1.out.ps).mono ?_
 rw[n0,if_neg Bool.false_ne_true]
 rintro r V ⟨rfl,hq⟩
 have HSa:=hide (HS1.out.rd hq)
 clear hq HS1
 go_wp2_with fail
 refine (l2got_any (⟨#[102,111,114]⟩:ByteArray) HSa.out.ps).mono ?_
 rw[n1,if_neg Bool.false_ne_true]
 rintro r V ⟨rfl,hq⟩
 have HSb:=hide (HSa.out.rd hq)
 clear hq HSa
 obtain⟨Va,hVa⟩:∃W,V.alloc (.cells #[.int .i64 0,.int .i64 0,.slice none 0 0,.slice none 0 0,.slice none 0 0,.int .i64 0] 51)=W:=⟨_,rfl⟩
 have hFn:=FSt.start HSb.out
 rw[hVa]at hFn
 have hOb:Blk Va V.heap.size 51 #[.int .i64 0,.int .i64 0,.slice none 0 0,.slice none 0 0,.slice none 0 0,.int .i64 0]:=by rw[← hVa];exact Blk.new _ _ _
 have o0:=hOb.cell 0
 have of0:=hOb.frozen 0
 have o1:=hOb.cell 1
 have of1:=hOb.frozen 1
 have o2:=hOb.cell 2
 have of2:=hOb.frozen 2
 have o3:=hOb.cell 3
 have of3:=hOb.frozen 3
 have o4:=hOb.cell 4
 have of4:=hOb.frozen 4
 have o5:=hOb.cell 5
 have of5:=hOb.frozen 5
 simp only[List.getElem?_toArray,List.getElem?_cons_succ,List.getElem?_cons_zero]at o0 o1 o2 o3 o4 o5
 obtain⟨Vb,hVb⟩:∃W,set6w Va V.heap.size (.int .i64 0) (.int .i64 0) (.slice none 0 0) (.slice none 0 0) (.slice none 0 0) (.int .i64 0)=W:=⟨_,rfl⟩
 rw[hVb]at hFn
 unfold set6w at hVb
 have HFn:=hide hFn
 clear hFn hOb HSb
 go_wp2_with fail
 obtain⟨O,hO⟩:∃O,V.heap.size=O:=⟨_,rfl⟩
 rw[hO]at HFn ⊢
 clear hO hVa hVb o0 of0 o1 of1 o2 of2 o3 of3 o4 of4 o5 of5
 refine (l2got_any (⟨#[108,101,116]⟩:ByteArray) HFn.out.st.ps).mono ?_
 rw[n2,if_neg Bool.false_ne_true]
 rintro r V ⟨rfl,hq⟩
 have HF2:=hide (HFn.out.rd hq)
 clear hq HFn
 go_wp2_with fail
 refine (l2got_any (⟨#[99,97,108,108]⟩:ByteArray) HF2.out.st.ps).mono ?_
 rw[h1,if_pos rfl]
 rintro r V ⟨rfl,hq⟩
 have HG:=hide (HF2.out.rd hq)
 clear hq HF2
 go_wp2_with fail
 refine (l2ident_any HG.out.st.ps).mono ?_
 rintro r V2 ⟨⟨u,rfl,hu,hus⟩,hq⟩
 rw[HIE.out]at hu hus hq
 have hS2:=HG.out.rd hq
 obtain⟨ua,uc,rfl⟩:=hu.slc
 have hNm:=FSt.named (k:=4) hS2 hu HG.out.nb.lt (by omega)
 obtain⟨Vc,hVc⟩:∃W,V2.alloc (.cells #[.slice ua I.1.size uc] 22)=W:=⟨_,rfl⟩
 have hOb:Blk Vc O 51 #[.int .i64 0,.int .i64 0,.slice none 0 0,.slice none 0 0,.slice none 0 0,.int .i64 0]:=by rw[← hVc];exact hS2.nb.below ((Below.refl _ _).alloc (Nat.le_refl _) _)
 have o0:=hOb.cell 0
 have of0:=hOb.frozen 0
 have o1:=hOb.cell 1
 have of1:=hOb.frozen 1
 have o2:=hOb.cell 2
 have of2:=hOb.frozen 2
 have o3:=hOb.cell 3
 have of3:=hOb.frozen 3
 have o4:=hOb.cell 4
 have of4:=hOb.frozen 4
 have o5:=hOb.cell 5
 have of5:=hOb.frozen 5
 simp only[List.getElem?_toArray,List.getElem?_cons_succ,List.getElem?_cons_zero]at o0 o1 o2 o3 o4 o5
 obtain⟨Vd,hVd⟩:∃W,set6w Vc O (.int .i64 4) (.int .i64 0) (.slice none 0 0) (.slice (some ⟨V2.heap.size,0,none⟩) 1 1) (.slice none 0 0) (.int .i64 0)=W:=⟨_,rfl⟩
 rw[hVc,hVd]at hNm
 unfold set6w at hVd
 have HG1:=hide hNm
 clear hu hq hS2 hNm hOb HG
 go_wp2_with fail
 obtain⟨NB,hNB⟩:∃O,V2.heap.size=O:=⟨_,rfl⟩
 rw[hNB]at HG1 ⊢
 clear hNB hVc hVd o0 of0 o1 of1 o2 of2 o3 of3 o4 of4 o5 of5
 refine (l2want_any (⟨#[40]⟩:ByteArray) HG1.out.st.ps).mono ?_
 rintro r V3 ⟨rfl,hq⟩
 have HG2:=hide (HG1.out.rd hq)
 rw[HPE.out]at HG2
 clear hq HG1
 go_wp2_with fail
 go_loopw [7] (fun vx wr=>∃(cc:Nat) (ks:List Pt) (p:Ps),rArgs e f cc ks p=F∧(p.bad<0→lft e p+1≤cc)∧ks.length+cc≤e.T.length∧FSt w wr c e p O (NB+1) { ndK 4 with names:=[I.1] } (.slice (some ⟨NB,0,none⟩) 1 1)∧KO wr (NB+1) (fun g=>NB+1≤g) vx ks) (fun _ wr=>muW e c wr)
 case atStart=>exact⟨e.T.length,[],P1,HFE.out,fun _=>HN.out,by simp,HG2.out,KO.nil _ _ _⟩
 case round=>
  obtain⟨cc,ks,p,hR,hN,hcc,hG,hK⟩:=hrel
  rename World=>V
  obtain⟨va,vc,rfl⟩:=hK.slc
  have HG:=hide hG
  have HK:=hide hK
  have hmu:=muW_of hG.st.ps
  have g3:=hG.st.ps.cells.2.2.2.1
  have hat:=hG.st.ps.at_
  clear hK hG HN HFE HG2
  by_cases hb:p.bad<0
  ·have d0:decide (p.bad<0)=true:=decide_eq_true hb
   have n1:=hN hb
   cases cc with
   |zero=>omega
   |succ cc=>
   rw[rArgs]at hR
   by_cases hz:ks.length=0
   ·obtain rfl:ks = []:=List.length_eq_zero_iff.1 hz
    have t0:((((0:Nat):Nat):Int)==0)=true:=rfl
    simp only[List.length_nil]at HK ⊢
    go_wp2_with fail
    refine (l2is_any (⟨#[41]⟩:ByteArray) HG.out.st.ps).mono ?_
    rintro r V1 ⟨rfl,hb1⟩
    have HGc:=hide (HG.out.below hb1)
    have HKc:=hide (HK.out.bel hb1)
    clear hb1 HG HK
    cases hi:e.is p (⟨#[41]⟩:ByteArray) with
    |true=>
     rw[if_neg (fun q=>q.2 ⟨hz,hi⟩)]at hR
     clear hz t0
     obtain rfl:F=(([]:List Pt),p):=hR.symm
     go_wp2_with fail
     refine (l2want_any (⟨#[41]⟩:ByteArray) HGc.out.st.ps).mono ?_
     rintro r Vx ⟨rfl,hq⟩
     have HGx:=hide (HGc.out.rd hq)
     have HKx:=hide (HKc.out.rdF HGc.out hq)
     clear hq HGc HKc
     obtain⟨Zp,hZp⟩:∃q,e.want p (⟨#[41]⟩:ByteArray)=q:=⟨_,rfl⟩
     simp only[hZp]at HGx HBF
     have HZP:=hide hZp
     clear hZp
     have x4:=HGx.out.st.ps.cells.2.2.2.2
     have xf4:=HGx.out.st.ps.fz 4
     have hdd:decide ((10:Int)<((List.length ([]:List Pt):Nat):Int))=decide (10<List.length ([]:List Pt)):=by
      by_cases q:10<List.length ([]:List Pt)
      ·rw[decide_eq_true q,decide_eq_true (by omega)]
      ·rw[decide_eq_false q,decide_eq_false (by omega)]
     obtain⟨D,hD⟩:∃D,decide (10<List.length ([]:List Pt))=D:=⟨_,rfl⟩
     simp only[hD]at hdd HBF
     have HDD:=hide hD
     obtain rfl:D=false:=HDD.out.symm.trans (by decide)
     obtain⟨Vy,hVy⟩:∃W,Vx.setCell ⟨c.P,4,none⟩ (.bool (Zp.long||false))=W:=⟨_,rfl⟩
     have hq:RdQ c e { Zp with long:=Zp.long||false } Vx Vy:=by rw[← hVy];exact HGx.out.st.ps.one (p':={ Zp with long:=Zp.long||false }) rfl HGx.out.st.ps.at_ HGx.out.st.ps.bad
     have HGy:=hide (HGx.out.rd hq)
     have HKy:=hide (HKx.out.rdF HGx.out hq)
     obtain⟨za,zb,L⟩:=Zp
     simp only at hVy HGy x4 HBF
     clear hD HGx HKx hq
     cases L<;>simp only[Bool.true_or,Bool.false_or]at hVy HGy HBF
     all_goals
      go_wp2_with fail
      refine (l2want_any (⟨#[59]⟩:ByteArray) HGy.out.st.ps).mono ?_
      rintro r Vw ⟨rfl,hq⟩
      have hSt:=HGy.out.rd hq
      have hKt:=HKy.out.rdF HGy.out hq
      have hlo:=hSt.lo
      have HPR:=hide ((hKt.mono (G':=fun g=>w.heap.size<g) (fun g hg _=>by omega)).pr (fun g hg=>by omega))
      have HOK:=hide (hSt.ok.mono (G':=fun g=>w.heap.size<g) (fun g hg _=>by omega))
      have m0:=hSt.nb.cell 0
      have m1:=hSt.nb.cell 1
      have m2:=hSt.nb.cell 2
      have m3:=hSt.nb.cell 3
      have m4:=hSt.nb.cell 4
      have m5:=hSt.nb.cell 5
      simp only[List.getElem?_toArray,List.getElem?_cons_succ,List.getElem?_cons_zero]at m0 m1 m2 m3 m4 m5
      have HSr:=hide hSt.st
      have hbf:=HBF.out
      clear hq hSt hKt hlo HGy HKy
      go_wp2_with fail
      refine (l2node_any (m:=⟨{ ndK 4 with names:=[I.1] },.slice none 0 0,.slice (some ⟨NB,0,none⟩) 1 1,.slice none 0 0⟩) (pl:=pl) (G:=fun g=>w.heap.size<g) (HOK.out) (HPR.out) (fun g hg=>Nat.lt_of_lt_of_le HSr.out.size hg) (by omega) (by simp)).mono ?_
      rintro r Vz ⟨vt,vp,rfl,hv,hbz⟩
      have HF:=hide (HSr.out.below hbz)
      obtain⟨ga,gc,gb,gd,rfl,rfl,_,_⟩:=hv.slc
      have HV:=hide hv
      have r0:=HF.out.res.cell 0
      have r1:=HF.out.res.cell 1
      have f0:=HF.out.res.frozen 0
      have f1:=HF.out.res.frozen 1
      simp only[List.getElem?_toArray,List.getElem?_cons_succ,List.getElem?_cons_zero]at r0 r1
      clear hv hbz
      go_wp2_with fail
      refine bodyPost_ret (results_one rfl _ _ _ w.heap.size 45 _ (0,0) rfl ((HF.out.res.set 0 _).set 1 _) Tryz.underlying45 (by kernel_rfl)) rfl ?_
      show ExQ c e w (ptN { ndK 4 with names:=[I.1] } pl ([]:List Pt),e.want { (e.want p (⟨#[41]⟩:ByteArray)) with long:=(e.want p (⟨#[41]⟩:ByteArray)).long||decide (10<List.length ([]:List Pt)) } (⟨#[59]⟩:ByteArray)) _ _
      rw[HZP.out]
      exact HF.out.fin HV.out
    |false=>
     rw[if_pos ⟨hb,fun q=>by rw[hi]at q;exact Bool.false_ne_true q.2⟩]at hR
     clear t0
     have hpg:=pgx p
     have hMv:=(mv_expr e f).1 1 p
     obtain⟨Y,hY⟩:∃Y,rE e f 1 p=Y:=⟨_,rfl⟩
     have HCY:=hide (ex_any HGc.out.st.ps hf)
     rw[hY]at HCY hR hpg hMv
     clear hY
     go_wp2_with fail
     refine (HCY.out).mono ?_
     rintro r Va ⟨vt,vp,rfl,hv,hq⟩
     have HSx:=hide (HGc.out.rd hq)
     have HKx:=hide (HKc.out.rdF HGc.out hq)
     obtain⟨xaa,xca,xba,xda,rfl,rfl,_,_⟩:=hv.slc
     have HMx:=hide (ms_lastG HKc.out (fun g hg=>Nat.le_trans HGc.out.bsz hg) hv (.cells #[.slice (some ⟨xaa,0,none⟩) Y.1.t.length xca,.slice (some ⟨xba,0,none⟩) Y.1.t.length xda] 45))
     have hbA:Below Va.heap.size Va (Va.alloc (.cells #[.slice (some ⟨xaa,0,none⟩) Y.1.t.length xca,.slice (some ⟨xba,0,none⟩) Y.1.t.length xda] 45)):=(Below.refl _ _).alloc (Nat.le_refl _) _
     have HBx:=hide (Cs.of_blk (Blk.new Va 45 #[.slice (some ⟨xaa,0,none⟩) Y.1.t.length xca,.slice (some ⟨xba,0,none⟩) Y.1.t.length xda]))
     have HSy:=hide (HSx.out.below hbA)
     have HKy:=hide (HKx.out.bel hbA)
     clear hv hq hbA HGc HKc HSx HKx
     go_wp2_with (at_builtin;refine wp_appKO rfl (.tmp 78) (.tmp 81) rfl (NB+1) rfl HKy.out Va.heap.size 1 1 rfl rfl HMx.out HBx.out (by simp) (HSy.out.bsz) ?_)
     intro v' Vab hk4 hg4
     have HGa:=hide (HSy.out.appK HKy.out (Nat.le_refl _) hg4)
     obtain⟨KS,hKS⟩:∃K,[Y.1]=K:=⟨_,rfl⟩
     rw[hKS]at hk4
     have HKS:=hide hKS
     clear hKS
     have HKa:=hide hk4
     obtain⟨waa,wca,rfl⟩:=hk4.slc
     clear hk4 hg4 HSy HKy HMx HBx
     have hKL:KS.length=0+1:=by rw[← HKS.out];rfl
     rw[List.nil_append,HKS.out]at hR
     have HKL:=hide hKL
     clear HCY hKL
     go_wp2_with fail
     refine (l2got_any (⟨#[44]⟩:ByteArray) HGa.out.st.ps).mono ?_
     rintro r Vg ⟨rfl,hq⟩
     have HGb:=hide (HGa.out.rd hq)
     have HKb:=hide (HKa.out.rdF HGa.out hq)
     clear hq HGa HKa
     cases hc1:e.is Y.2 (⟨#[44]⟩:ByteArray) with
     |true=>
      rw[hc1,if_pos rfl]at HGb
      rw[if_pos hc1]at hR
      have hkp:=kind_pos (is_kind hc1)
      have hmd:=mu_dec hb hat hMv hpg
      have hmu2:=muW_of HGb.out.st.ps
      have hml:=hMv.le
      have hmt:=hMv.top hat
      have HRL:Hid (rArgs e f cc KS Y.2.on=F∧(Y.2.on.bad<0→lft e Y.2.on+1≤cc)∧KS.length+cc≤e.T.length):=⟨hR,fun _=>by
       rcases hpg with g|g
       ·omega
       ·unfold lft at n1 ⊢;show e.T.length - (Y.2.at_+1)+1≤cc;omega,by have:=HKL.out;omega⟩
      have HMD:Hid (mu e Y.2.on<mu e p):=by
       have h2:=(mv_on (is_kind hc1))
       have:=mu_dec (e:=e) hkp.1 hmt h2.1 h2.2
       show _<_
       omega
      clear hMv hpg hR hmd
      go_wp2
      go_roundw
      case rel=>exact⟨cc,KS,Y.2.on,HRL.out.1,HRL.out.2.1,HRL.out.2.2,HGb.out,HKb.out⟩
      case measure=>rw[hmu,hmu2];exact HMD.out
     |false=>
      rw[hc1,if_neg Bool.false_ne_true]at HGb
      rw[if_neg (by rw[hc1];exact Bool.false_ne_true)]at hR
      have hkl:KS.length≤5000:=by have:=HKL.out;omega
      obtain rfl:F=(KS,Y.2):=hR.symm
      go_wp2_with fail
      refine (l2want_any (⟨#[41]⟩:ByteArray) HGb.out.st.ps).mono ?_
      rintro r Vx ⟨rfl,hq⟩
      have HGx:=hide (HGb.out.rd hq)
      have HKx:=hide (HKb.out.rdF HGb.out hq)
      clear hq HGb HKb
      obtain⟨Zp,hZp⟩:∃q,e.want Y.2 (⟨#[41]⟩:ByteArray)=q:=⟨_,rfl⟩
      simp only[hZp]at HGx HBF
      have HZP:=hide hZp
      clear hZp
      have x4:=HGx.out.st.ps.cells.2.2.2.2
      have xf4:=HGx.out.st.ps.fz 4
      have hdd:decide ((10:Int)<((List.length KS:Nat):Int))=decide (10<List.length KS):=by
       by_cases q:10<List.length KS
       ·rw[decide_eq_true q,decide_eq_true (by omega)]
       ·rw[decide_eq_false q,decide_eq_false (by omega)]
      obtain⟨D,hD⟩:∃D,decide (10<List.length KS)=D:=⟨_,rfl⟩
      simp only[hD]at hdd HBF
      have HDD:=hide hD
      obtain⟨Vy,hVy⟩:∃W,Vx.setCell ⟨c.P,4,none⟩ (.bool (Zp.long||D))=W:=⟨_,rfl⟩
      have hq:RdQ c e { Zp with long:=Zp.long||D } Vx Vy:=by rw[← hVy];exact HGx.out.st.ps.one (p':={ Zp with long:=Zp.long||D }) rfl HGx.out.st.ps.at_ HGx.out.st.ps.bad
      have HGy:=hide (HGx.out.rd hq)
      have HKy:=hide (HKx.out.rdF HGx.out hq)
      obtain⟨za,zb,L⟩:=Zp
      simp only at hVy HGy x4 HBF
      clear hD HGx HKx hq
      cases L<;>simp only[Bool.true_or,Bool.false_or]at hVy HGy HBF
      all_goals
       go_wp2_with fail
       refine (l2want_any (⟨#[59]⟩:ByteArray) HGy.out.st.ps).mono ?_
       rintro r Vw ⟨rfl,hq⟩
       have hSt:=HGy.out.rd hq
       have hKt:=HKy.out.rdF HGy.out hq
       have hlo:=hSt.lo
       have HPR:=hide ((hKt.mono (G':=fun g=>w.heap.size<g) (fun g hg _=>by omega)).pr (fun g hg=>by omega))
       have HOK:=hide (hSt.ok.mono (G':=fun g=>w.heap.size<g) (fun g hg _=>by omega))
       have m0:=hSt.nb.cell 0
       have m1:=hSt.nb.cell 1
       have m2:=hSt.nb.cell 2
       have m3:=hSt.nb.cell 3
       have m4:=hSt.nb.cell 4
       have m5:=hSt.nb.cell 5
       simp only[List.getElem?_toArray,List.getElem?_cons_succ,List.getElem?_cons_zero]at m0 m1 m2 m3 m4 m5
       have HSr:=hide hSt.st
       have hbf:=HBF.out
       clear hq hSt hKt hlo HGy HKy
       go_wp2_with fail
       refine (l2node_any (m:=⟨{ ndK 4 with names:=[I.1] },.slice none 0 0,.slice (some ⟨NB,0,none⟩) 1 1,.slice none 0 0⟩) (pl:=pl) (G:=fun g=>w.heap.size<g) (HOK.out) (HPR.out) (fun g hg=>Nat.lt_of_lt_of_le HSr.out.size hg) (by omega) (by omega)).mono ?_
       rintro r Vz ⟨vt,vp,rfl,hv,hbz⟩
       have HF:=hide (HSr.out.below hbz)
       obtain⟨ga,gc,gb,gd,rfl,rfl,_,_⟩:=hv.slc
       have HV:=hide hv
       have r0:=HF.out.res.cell 0
       have r1:=HF.out.res.cell 1
       have f0:=HF.out.res.frozen 0
       have f1:=HF.out.res.frozen 1
       simp only[List.getElem?_toArray,List.getElem?_cons_succ,List.getElem?_cons_zero]at r0 r1
       clear hv hbz
       go_wp2_with fail
       refine bodyPost_ret (results_one rfl _ _ _ w.heap.size 45 _ (0,0) rfl ((HF.out.res.set 0 _).set 1 _) Tryz.underlying45 (by kernel_rfl)) rfl ?_
       show ExQ c e w (ptN { ndK 4 with names:=[I.1] } pl KS,e.want { (e.want Y.2 (⟨#[41]⟩:ByteArray)) with long:=(e.want Y.2 (⟨#[41]⟩:ByteArray)).long||decide (10<List.length KS) } (⟨#[59]⟩:ByteArray)) _ _
       rw[HZP.out,HDD.out]
       exact HF.out.fin HV.out
   ·have t0:(((ks.length:Nat):Int)==0)=false:=by rw[beq_eq_false_iff_ne];omega
    rw[if_pos ⟨hb,fun q=>hz q.1⟩]at hR
    have hpg:=pgx p
    have hMv:=(mv_expr e f).1 1 p
    obtain⟨Y,hY⟩:∃Y,rE e f 1 p=Y:=⟨_,rfl⟩
    have HCY:=hide (ex_any HG.out.st.ps hf)
    rw[hY]at HCY hR hpg hMv
    clear hY
    go_wp2_with fail
    refine (HCY.out).mono ?_
    rintro r Va ⟨vt,vp,rfl,hv,hq⟩
    have HSx:=hide (HG.out.rd hq)
    have HKx:=hide (HK.out.rdF HG.out hq)
    obtain⟨xaa,xca,xba,xda,rfl,rfl,_,_⟩:=hv.slc
    have HMx:=hide (ms_lastG HK.out (fun g hg=>Nat.le_trans HG.out.bsz hg) hv (.cells #[.slice (some ⟨xaa,0,none⟩) Y.1.t.length xca,.slice (some ⟨xba,0,none⟩) Y.1.t.length xda] 45))
    have hbA:Below Va.heap.size Va (Va.alloc (.cells #[.slice (some ⟨xaa,0,none⟩) Y.1.t.length xca,.slice (some ⟨xba,0,none⟩) Y.1.t.length xda] 45)):=(Below.refl _ _).alloc (Nat.le_refl _) _
    have HBx:=hide (Cs.of_blk (Blk.new Va 45 #[.slice (some ⟨xaa,0,none⟩) Y.1.t.length xca,.slice (some ⟨xba,0,none⟩) Y.1.t.length xda]))
    have HSy:=hide (HSx.out.below hbA)
    have HKy:=hide (HKx.out.bel hbA)
    clear hv hq hbA HG HK HSx HKx
    go_wp2_with (at_builtin;refine wp_appKO rfl (.tmp 78) (.tmp 81) rfl (NB+1) rfl HKy.out Va.heap.size 1 1 rfl rfl HMx.out HBx.out (by simp;omega) (HSy.out.bsz) ?_)
    intro v' Vab hk4 hg4
    have HGa:=hide (HSy.out.appK HKy.out (Nat.le_refl _) hg4)
    obtain⟨KS,hKS⟩:∃K,ks++[Y.1]=K:=⟨_,rfl⟩
    rw[hKS]at hk4
    have HKS:=hide hKS
    clear hKS
    have HKa:=hide hk4
    obtain⟨waa,wca,rfl⟩:=hk4.slc
    clear hk4 hg4 HSy HKy HMx HBx
    have hKL:KS.length=ks.length+1:=by rw[← HKS.out,List.length_append,List.length_singleton]
    rw[HKS.out]at hR
    have HKL:=hide hKL
    clear HCY hKL
    go_wp2_with fail
    refine (l2got_any (⟨#[44]⟩:ByteArray) HGa.out.st.ps).mono ?_
    rintro r Vg ⟨rfl,hq⟩
    have HGb:=hide (HGa.out.rd hq)
    have HKb:=hide (HKa.out.rdF HGa.out hq)
    clear hq HGa HKa
    cases hc1:e.is Y.2 (⟨#[44]⟩:ByteArray) with
    |true=>
     rw[hc1,if_pos rfl]at HGb
     rw[if_pos hc1]at hR
     have hkp:=kind_pos (is_kind hc1)
     have hmd:=mu_dec hb hat hMv hpg
     have hmu2:=muW_of HGb.out.st.ps
     have hml:=hMv.le
     have hmt:=hMv.top hat
     have HRL:Hid (rArgs e f cc KS Y.2.on=F∧(Y.2.on.bad<0→lft e Y.2.on+1≤cc)∧KS.length+cc≤e.T.length):=⟨hR,fun _=>by
      rcases hpg with g|g
      ·omega
      ·unfold lft at n1 ⊢;show e.T.length - (Y.2.at_+1)+1≤cc;omega,by have:=HKL.out;omega⟩
     have HMD:Hid (mu e Y.2.on<mu e p):=by
      have h2:=(mv_on (is_kind hc1))
      have:=mu_dec (e:=e) hkp.1 hmt h2.1 h2.2
      show _<_
      omega
     clear hMv hpg hR hmd
     go_wp2
     go_roundw
     case rel=>exact⟨cc,KS,Y.2.on,HRL.out.1,HRL.out.2.1,HRL.out.2.2,HGb.out,HKb.out⟩
     case measure=>rw[hmu,hmu2];exact HMD.out
    |false=>
     rw[hc1,if_neg Bool.false_ne_true]at HGb
     rw[if_neg (by rw[hc1];exact Bool.false_ne_true)]at hR
     have hkl:KS.length≤5000:=by have:=HKL.out;omega
     obtain rfl:F=(KS,Y.2):=hR.symm
     go_wp2_with fail
     refine (l2want_any (⟨#[41]⟩:ByteArray) HGb.out.st.ps).mono ?_
     rintro r Vx ⟨rfl,hq⟩
     have HGx:=hide (HGb.out.rd hq)
     have HKx:=hide (HKb.out.rdF HGb.out hq)
     clear hq HGb HKb
     obtain⟨Zp,hZp⟩:∃q,e.want Y.2 (⟨#[41]⟩:ByteArray)=q:=⟨_,rfl⟩
     simp only[hZp]at HGx HBF
     have HZP:=hide hZp
     clear hZp
     have x4:=HGx.out.st.ps.cells.2.2.2.2
     have xf4:=HGx.out.st.ps.fz 4
     have hdd:decide ((10:Int)<((List.length KS:Nat):Int))=decide (10<List.length KS):=by
      by_cases q:10<List.length KS
      ·rw[decide_eq_true q,decide_eq_true (by omega)]
      ·rw[decide_eq_false q,decide_eq_false (by omega)]
     obtain⟨D,hD⟩:∃D,decide (10<List.length KS)=D:=⟨_,rfl⟩
     simp only[hD]at hdd HBF
     have HDD:=hide hD
     obtain⟨Vy,hVy⟩:∃W,Vx.setCell ⟨c.P,4,none⟩ (.bool (Zp.long||D))=W:=⟨_,rfl⟩
     have hq:RdQ c e { Zp with long:=Zp.long||D } Vx Vy:=by rw[← hVy];exact HGx.out.st.ps.one (p':={ Zp with long:=Zp.long||D }) rfl HGx.out.st.ps.at_ HGx.out.st.ps.bad
     have HGy:=hide (HGx.out.rd hq)
     have HKy:=hide (HKx.out.rdF HGx.out hq)
     obtain⟨za,zb,L⟩:=Zp
     simp only at hVy HGy x4 HBF
     clear hD HGx HKx hq
     cases L<;>simp only[Bool.true_or,Bool.false_or]at hVy HGy HBF
     all_goals
      go_wp2_with fail
      refine (l2want_any (⟨#[59]⟩:ByteArray) HGy.out.st.ps).mono ?_
      rintro r Vw ⟨rfl,hq⟩
      have hSt:=HGy.out.rd hq
      have hKt:=HKy.out.rdF HGy.out hq
      have hlo:=hSt.lo
      have HPR:=hide ((hKt.mono (G':=fun g=>w.heap.size<g) (fun g hg _=>by omega)).pr (fun g hg=>by omega))
      have HOK:=hide (hSt.ok.mono (G':=fun g=>w.heap.size<g) (fun g hg _=>by omega))
      have m0:=hSt.nb.cell 0
      have m1:=hSt.nb.cell 1
      have m2:=hSt.nb.cell 2
      have m3:=hSt.nb.cell 3
      have m4:=hSt.nb.cell 4
      have m5:=hSt.nb.cell 5
      simp only[List.getElem?_toArray,List.getElem?_cons_succ,List.getElem?_cons_zero]at m0 m1 m2 m3 m4 m5
      have HSr:=hide hSt.st
      have hbf:=HBF.out
      clear hq hSt hKt hlo HGy HKy
      go_wp2_with fail
      refine (l2node_any (m:=⟨{ ndK 4 with names:=[I.1] },.slice none 0 0,.slice (some ⟨NB,0,none⟩) 1 1,.slice none 0 0⟩) (pl:=pl) (G:=fun g=>w.heap.size<g) (HOK.out) (HPR.out) (fun g hg=>Nat.lt_of_lt_of_le HSr.out.size hg) (by omega) (by omega)).mono ?_
      rintro r Vz ⟨vt,vp,rfl,hv,hbz⟩
      have HF:=hide (HSr.out.below hbz)
      obtain⟨ga,gc,gb,gd,rfl,rfl,_,_⟩:=hv.slc
      have HV:=hide hv
      have r0:=HF.out.res.cell 0
      have r1:=HF.out.res.cell 1
      have f0:=HF.out.res.frozen 0
      have f1:=HF.out.res.frozen 1
      simp only[List.getElem?_toArray,List.getElem?_cons_succ,List.getElem?_cons_zero]at r0 r1
      clear hv hbz
      go_wp2_with fail
      refine bodyPost_ret (results_one rfl _ _ _ w.heap.size 45 _ (0,0) rfl ((HF.out.res.set 0 _).set 1 _) Tryz.underlying45 (by kernel_rfl)) rfl ?_
      show ExQ c e w (ptN { ndK 4 with names:=[I.1] } pl KS,e.want { (e.want Y.2 (⟨#[41]⟩:ByteArray)) with long:=(e.want Y.2 (⟨#[41]⟩:ByteArray)).long||decide (10<List.length KS) } (⟨#[59]⟩:ByteArray)) _ _
      rw[HZP.out,HDD.out]
      exact HF.out.fin HV.out
  ·have d0:decide (p.bad<0)=false:=decide_eq_false hb
   have hR':(ks,p)=F:=by
    cases cc with
    |zero=>exact hR
    |succ cc=>rw[rArgs,if_neg (fun q=>hb q.1)]at hR;exact hR
   have hkl:ks.length≤5000:=by omega
   obtain rfl:F=(ks,p):=hR'.symm
   go_wp2_with fail
   refine (l2want_any (⟨#[41]⟩:ByteArray) HG.out.st.ps).mono ?_
   rintro r Vx ⟨rfl,hq⟩
   have HGx:=hide (HG.out.rd hq)
   have HKx:=hide (HK.out.rdF HG.out hq)
   clear hq HG HK
   obtain⟨Zp,hZp⟩:∃q,e.want p (⟨#[41]⟩:ByteArray)=q:=⟨_,rfl⟩
   simp only[hZp]at HGx HBF
   have HZP:=hide hZp
   clear hZp
   have x4:=HGx.out.st.ps.cells.2.2.2.2
   have xf4:=HGx.out.st.ps.fz 4
   have hdd:decide ((10:Int)<((List.length ks:Nat):Int))=decide (10<List.length ks):=by
    by_cases q:10<List.length ks
    ·rw[decide_eq_true q,decide_eq_true (by omega)]
    ·rw[decide_eq_false q,decide_eq_false (by omega)]
   obtain⟨D,hD⟩:∃D,decide (10<List.length ks)=D:=⟨_,rfl⟩
   simp only[hD]at hdd HBF
   have HDD:=hide hD
   obtain⟨Vy,hVy⟩:∃W,Vx.setCell ⟨c.P,4,none⟩ (.bool (Zp.long||D))=W:=⟨_,rfl⟩
   have hq:RdQ c e { Zp with long:=Zp.long||D } Vx Vy:=by rw[← hVy];exact HGx.out.st.ps.one (p':={ Zp with long:=Zp.long||D }) rfl HGx.out.st.ps.at_ HGx.out.st.ps.bad
   have HGy:=hide (HGx.out.rd hq)
   have HKy:=hide (HKx.out.rdF HGx.out hq)
   obtain⟨za,zb,L⟩:=Zp
   simp only at hVy HGy x4 HBF
   clear hD HGx HKx hq
   cases L<;>simp only[Bool.true_or,Bool.false_or]at hVy HGy HBF
   all_goals
    go_wp2_with fail
    refine (l2want_any (⟨#[59]⟩:ByteArray) HGy.out.st.ps).mono ?_
    rintro r Vw ⟨rfl,hq⟩
    have hSt:=HGy.out.rd hq
    have hKt:=HKy.out.rdF HGy.out hq
    have hlo:=hSt.lo
    have HPR:=hide ((hKt.mono (G':=fun g=>w.heap.size<g) (fun g hg _=>by omega)).pr (fun g hg=>by omega))
    have HOK:=hide (hSt.ok.mono (G':=fun g=>w.heap.size<g) (fun g hg _=>by omega))
    have m0:=hSt.nb.cell 0
    have m1:=hSt.nb.cell 1
    have m2:=hSt.nb.cell 2
    have m3:=hSt.nb.cell 3
    have m4:=hSt.nb.cell 4
    have m5:=hSt.nb.cell 5
    simp only[List.getElem?_toArray,List.getElem?_cons_succ,List.getElem?_cons_zero]at m0 m1 m2 m3 m4 m5
    have HSr:=hide hSt.st
    have hbf:=HBF.out
    clear hq hSt hKt hlo HGy HKy
    go_wp2_with fail
    refine (l2node_any (m:=⟨{ ndK 4 with names:=[I.1] },.slice none 0 0,.slice (some ⟨NB,0,none⟩) 1 1,.slice none 0 0⟩) (pl:=pl) (G:=fun g=>w.heap.size<g) (HOK.out) (HPR.out) (fun g hg=>Nat.lt_of_lt_of_le HSr.out.size hg) (by omega) (by omega)).mono ?_
    rintro r Vz ⟨vt,vp,rfl,hv,hbz⟩
    have HF:=hide (HSr.out.below hbz)
    obtain⟨ga,gc,gb,gd,rfl,rfl,_,_⟩:=hv.slc
    have HV:=hide hv
    have r0:=HF.out.res.cell 0
    have r1:=HF.out.res.cell 1
    have f0:=HF.out.res.frozen 0
    have f1:=HF.out.res.frozen 1
    simp only[List.getElem?_toArray,List.getElem?_cons_succ,List.getElem?_cons_zero]at r0 r1
    clear hv hbz
    go_wp2_with fail
    refine bodyPost_ret (results_one rfl _ _ _ w.heap.size 45 _ (0,0) rfl ((HF.out.res.set 0 _).set 1 _) Tryz.underlying45 (by kernel_rfl)) rfl ?_
    show ExQ c e w (ptN { ndK 4 with names:=[I.1] } pl ks,e.want { (e.want p (⟨#[41]⟩:ByteArray)) with long:=(e.want p (⟨#[41]⟩:ByteArray)).long||decide (10<List.length ks) } (⟨#[59]⟩:ByteArray)) _ _
    rw[HZP.out,HDD.out]
    exact HF.out.fin HV.out
theorem if_all {c:PsC}{e:PsE}{f m:Nat}(hf:2*e.T.length+3≤f)(BL:BlC c e f m):∀cc,IfC c e f m cc
 |0=>fun w p pl _ _ h=>by omega
 |cc+1=>if_step hf BL (if_all hf BL cc)
set_option maxHeartbeats 8000000 in
set_option maxRecDepth 1000000 in
theorem stat_if {w:World}{c:PsC}{e:PsE}{p:Ps}{f m:Nat}(h:PsW w c e p)(hf:2*e.T.length+3≤f)(BL:BlC c e f m)(hm:lft e p≤m)(h1:e.is p (⟨#[105,102]⟩:ByteArray)=true):
 Calls Tryz.prog 19 #[.pointer (some ⟨c.P,0,none⟩)] w (ExQ c e w (rS e f (m+1) p)):=by
 have HS0:=hide (RSt.start h)
 have hpl:=PsE.place_le h
 have HPL:=hide (l2place_any (RSt.start h).ps)
 have hk:=(kind_pos (is_kind h1)).2
 have HE:Hid (rS e f (m+1) p=rIf e f (rBlock e e.T.length (rS e f m)) e.T.length (e.place p) p.on):=by
  show _=_
  rw[rS]
  simp only
  rw[if_pos h1]
 obtain⟨W0,hW0⟩:∃W,w.alloc (.cells #[.slice none 0 0,.slice none 0 0] 45)=W:=⟨_,rfl⟩
 rw[hW0]at HS0 HPL
 obtain⟨pl,hplE⟩:∃q,e.place p=q:=⟨_,rfl⟩
 rw[hplE]at hpl HPL HE
 rw[HE.out]
 have HIF:Hid (∀V,PsW V c e p.on→Calls Tryz.prog 39 #[.pointer (some ⟨c.P,0,none⟩),.int .i64 (pl:Nat)] V (ExQ c e V (rIf e f (rBlock e e.T.length (rS e f m)) e.T.length pl p.on))):=fun V hV=>if_all hf BL e.T.length V p.on pl hpl hV (by unfold lft;show e.T.length - (p.at_+1)+1≤_;omega) (by unfold lft at hm ⊢;show e.T.length - (p.at_+1)≤m;omega)
 obtain⟨X,hX⟩:∃X,rIf e f (rBlock e e.T.length (rS e f m)) e.T.length pl p.on=X:=⟨_,rfl⟩
 rw[hX]at HIF ⊢
 clear h BL hplE hX hm hk
 go_enter Tryz.func19,Tryz.ntmps19
 go_wp2_with fail
 refine HPL.out.mono ?_
 rintro r V ⟨rfl,m0,rfl⟩
 have HS1:=hide (HS0.out.below (below_drewN (Below.refl _ _) m0))
 clear HPL hW0 HS0
 go_wp2_with fail
 refine (l2got_any (⟨#[105,102]⟩:ByteArray) HS1.out.ps).mono ?_
 rw[h1,if_pos rfl]
 rintro r V ⟨rfl,hq⟩
 have HSb:=hide (HS1.out.rd hq)
 clear hq HS1
 go_wp2_with fail
 refine (HIF.out _ HSb.out.ps).mono ?_
 rintro r V2 ⟨vt,vp,rfl,hv,hq⟩
 have HF:=hide (HSb.out.rd hq)
 have hv2:=hv.mono (G':=fun g=>w.heap.size<g) (fun g hg _=>Nat.lt_of_lt_of_le HSb.out.size hg)
 obtain⟨ga,gc,gb,gd,rfl,rfl,_,_⟩:=hv2.slc
 have HV:=hide hv2
 have r0:=HF.out.res.cell 0
 have r1:=HF.out.res.cell 1
 have f0:=HF.out.res.frozen 0
 have f1:=HF.out.res.frozen 1
 simp only[List.getElem?_toArray,List.getElem?_cons_succ,List.getElem?_cons_zero]at r0 r1
 clear hv hv2 hq HSb
 go_wp2_with fail
 refine bodyPost_ret (results_one rfl _ _ _ w.heap.size 45 _ (0,0) rfl ((HF.out.res.set 0 _).set 1 _) Tryz.underlying45 (by kernel_rfl)) rfl ?_
 exact HF.out.fin HV.out
theorem flat_of {e:PsE}{p:Ps}{f m:Nat}(n0:e.is p (⟨#[105,102]⟩:ByteArray)=false)(n1:e.is p (⟨#[102,111,114]⟩:ByteArray)=false):rS e f (m+1) p=rFlat e f p:=by
 rw[rS]
 simp only
 rw[if_neg (by rw[n0];exact Bool.false_ne_true),if_neg (by rw[n1];exact Bool.false_ne_true)]
theorem is_now {e:PsE}{p:Ps}{a b:ByteArray}(h:e.is p a=true)(hn:a≠b):e.is p b=false:=by
 unfold PsE.is at h ⊢
 rw[Bool.and_eq_true]at h
 have:=of_decide_eq_true h.2
 rw[this,decide_eq_false hn,Bool.and_false]
theorem stat_any {c:PsC}{e:PsE}{f m:Nat}(hf:2*e.T.length+3≤f)(BL:BlC c e f m):StC c e f (m+1):=fun w p h hm=>by
 cases n0:e.is p (⟨#[105,102]⟩:ByteArray) with
 |true=>exact stat_if h hf BL (by omega) n0
 |false=>
 cases n1:e.is p (⟨#[102,111,114]⟩:ByteArray) with
 |true=>exact stat_for h hf BL (by omega) n0 n1
 |false=>
 rw[flat_of n0 n1]
 cases n2:e.is p (⟨#[108,101,116]⟩:ByteArray) with
 |true=>exact stat_let h hf n0 n1 n2
 |false=>
 cases n3:e.is p (⟨#[99,97,108,108]⟩:ByteArray) with
 |true=>exact stat_call h hf n0 n1 n2 n3
 |false=>
 cases n4:e.is p (⟨#[103,114,105,100]⟩:ByteArray) with
 |true=>exact stat_grid h hf n0 n1 n2 n3 n4
 |false=>
 cases n5:e.is p (⟨#[119,97,108,108]⟩:ByteArray) with
 |true=>exact stat_wall h hf n0 n1 n2 n3 n4 n5
 |false=>
 cases n6:e.is p (⟨#[111,112,101,110]⟩:ByteArray) with
 |true=>exact stat_open h hf n0 n1 n2 n3 n4 n5 n6
 |false=>
 cases n7:e.is p (⟨#[108,97,110,101]⟩:ByteArray) with
 |true=>exact stat_lane h hf n0 n1 n2 n3 n4 n5 n6 n7
 |false=>
 cases n8:e.is p (⟨#[103,97,116,101]⟩:ByteArray) with
 |true=>exact stat_gate h hf n0 n1 n2 n3 n4 n5 n6 n7 n8
 |false=>
 cases n9:e.is p (⟨#[98,97,114]⟩:ByteArray) with
 |true=>exact stat_bar h hf n0 n1 n2 n3 n4 n5 n6 n7 n8 n9
 |false=>
 cases n10:e.is p (⟨#[122,111,110,101]⟩:ByteArray) with
 |true=>exact stat_zone h hf n0 n1 n2 n3 n4 n5 n6 n7 n8 n9 n10
 |false=>
 cases h3:e.is p (⟨#[115,116,97,116,105,111,110]⟩:ByteArray) with
 |true=>exact stat_station h hf n0 n1 n2 n3 n4 n5 n6 n7 n8 n9 n10 (by rw[h3];rfl) (is_now h3 (by decide)) h3
 |false=>
 cases h2:e.is p (⟨#[99,104,97,114,103,101,114]⟩:ByteArray) with
 |true=>exact stat_charger h hf n0 n1 n2 n3 n4 n5 n6 n7 n8 n9 n10 (by rw[h3,h2];rfl) h2 h3
 |false=>exact stat_none h n0 n1 n2 n3 n4 n5 n6 n7 n8 n9 n10 (by rw[h3,h2];rfl)
theorem st_all {c:PsC}{e:PsE}{f:Nat}(hf:2*e.T.length+3≤f):∀m,StC c e f m
 |0=>fun w p _ h=>by omega
 |m+1=>stat_any hf (blk_all (st_all hf m))
structure MSt (w V:World)(c:PsC)(e:PsE)(p:Ps)(O:Nat)(nv yv:Value)(ns:List ByteArray)(ty:List Int)(M:List Value):Prop where
 st:RSt w V c e p
 nb:Blk V O 51 #[.int .i64 1,.int .i64 0,.slice none 0 0,nv,yv,.int .i64 0]
 lo:w.heap.size<O
 no:V.ownsRow (w.heap.size+1) 22 1 nv ns.length M
 yo:V.ownsRow (w.heap.size+1) 3 1 yv ty.length (inv ty)
 ml:M.length=ns.length
 mn:∀(j:Nat) (x:ByteArray),ns[j]?=some x→∃u:Value,M[j]?=some u∧BG V (fun g=>w.heap.size<g∧g≠O∧nv.ownBlock≠some g∧yv.ownBlock≠some g) u x
 sz:∀x∈ns,x.size≤5000
theorem MSt.rd {w V V':World}{c:PsC}{e:PsE}{p p':Ps}{O:Nat}{nv yv:Value}{ns:List ByteArray}{ty:List Int}{M:List Value}(h:MSt w V c e p O nv yv ns ty M)(hq:RdQ c e p' V V'):MSt w V' c e p' O nv yv ns ty M:=by
 have h1:=h.lo
 have h2:=h.st.lt
 refine⟨h.st.rd hq,hq.2.blk h.nb (by show ¬O=c.P;omega),h1,hq.2.own h.no (fun k hk q=>?_),hq.2.own h.yo (fun k hk q=>?_),h.ml,fun j x hj=>?_,h.sz⟩
 ·have:=(h.no.lt k hk).1;omega
 ·have:=(h.yo.lt k hk).1;omega
 ·obtain⟨u,h3,h4⟩:=h.mn j x hj
  exact⟨u,h3,h4.gw hq.2 (fun k hk q=>by omega)⟩
theorem MSt.below {w V V':World}{c:PsC}{e:PsE}{p:Ps}{O:Nat}{nv yv:Value}{ns:List ByteArray}{ty:List Int}{M:List Value}(h:MSt w V c e p O nv yv ns ty M)(hb:Below V.heap.size V V'):MSt w V' c e p O nv yv ns ty M:=by
 have hg:=Gw.of_below (P:=fun _=>False) hb
 refine⟨h.st.below hb,h.nb.below hb,h.lo,hg.own h.no (fun _ _ q=>q),hg.own h.yo (fun _ _ q=>q),h.ml,fun j x hj=>?_,h.sz⟩
 obtain⟨u,h3,h4⟩:=h.mn j x hj
 exact⟨u,h3,h4.gw hg (fun _ q=>q.elim)⟩
theorem MSt.pushN {w V V1:World}{c:PsC}{e:PsE}{p:Ps}{O:Nat}{nv yv u v':Value}{ns:List ByteArray}{ty:List Int}{M:List Value}{s:ByteArray}(h:MSt w V c e p O nv yv ns ty M)(hu:BG V (fun g=>w.heap.size<g∧g≠O∧nv.ownBlock≠some g∧yv.ownBlock≠some g) u s)(hs:s.size≤5000)
 (hown:V1.ownsRow (w.heap.size+1) 22 1 v' (ns.length+1) (M++[u])) (hg:V.grownBy V1 nv.ownBlock) (hat:v'.ownBlock=nv.ownBlock∨v'.ownBlock=some V.heap.size):
 Blk V1 O 51 #[.int .i64 1,.int .i64 0,.slice none 0 0,nv,yv,.int .i64 0]∧MSt w (V1.setCell ⟨O,3,none⟩ v') c e p O v' yv (ns++[s]) ty (M++[u]):=by
 have hgw:=Gw.own_of h.no hg
 have b1:Blk V1 O 51 #[.int .i64 1,.int .i64 0,.slice none 0 0,nv,yv,.int .i64 0]:=app_typed h.nb (by decide) h.no hg
 refine⟨b1,⟨(h.st.app h.no (Nat.lt_succ_self _) hg).other h.lo 3 v',b1.set 3 v',h.lo,?_,?_,by rw[List.length_append,List.length_append,h.ml];rfl,fun j x hj=>?_,fun x hx=>?_⟩⟩
 ·rw[List.length_append,List.length_singleton]
  exact own_typed hown (fun g cur hb=>set_typed b1 hb (by decide))
 ·exact own_typed (own_typed h.yo (fun g cur hb=>app_typed hb (by decide) h.no hg)) (fun g cur hb=>set_typed b1 hb (by decide))
 ·have key:∀ {a:Value} {x:ByteArray},BG V (fun g=>w.heap.size<g∧g≠O∧nv.ownBlock≠some g∧yv.ownBlock≠some g) a x→BG (V1.setCell ⟨O,3,none⟩ v') (fun g=>w.heap.size<g∧g≠O∧v'.ownBlock≠some g∧yv.ownBlock≠some g) a x:=fun {a x} hb=>by
   have h1:=hb.mono (G':=fun g=>(w.heap.size<g∧g≠O∧v'.ownBlock≠some g∧yv.ownBlock≠some g)∧nv.ownBlock≠some g) (fun g hg hl=>⟨⟨hg.1,hg.2.1,by
    rcases hat with q|q
    ·rw[q];exact hg.2.2.1
    ·rw[q];intro r;injection r with r;omega,hg.2.2.2⟩,hg.2.2.1⟩)
   exact ((h1.gw hgw (fun k hk q=>q.2 hk)).mono (fun g hg _=>hg.1)).gw (Gw.set V1 O 3 v') (fun k hk q=>q.2.1 hk)
  by_cases cj:j<ns.length
  ·rw[List.getElem?_append_left cj]at hj
   obtain⟨a,h3,h4⟩:=h.mn j x hj
   exact⟨a,by rw[List.getElem?_append_left (by rw[h.ml];exact cj)];exact h3,key h4⟩
  ·rw[List.getElem?_append_right (by omega)]at hj
   have hz:j - ns.length=0:=by
    rcases Nat.eq_zero_or_pos (j - ns.length) with q|q
    ·exact q
    ·rw[List.getElem?_eq_none (by simp;omega)]at hj;cases hj
   rw[hz]at hj
   obtain rfl:s=x:=by simpa using hj
   exact⟨u,by rw[List.getElem?_append_right (by rw[h.ml];omega),h.ml,hz];rfl,key hu⟩
 ·rcases List.mem_append.1 hx with q|q
  ·exact h.sz x q
  ·rw[List.mem_singleton.1 q];exact hs
theorem MSt.pushT {w V V1:World}{c:PsC}{e:PsE}{p:Ps}{O:Nat}{nv yv v':Value}{ns:List ByteArray}{ty:List Int}{M:List Value}{k:Int}(h:MSt w V c e p O nv yv ns ty M)
 (hown:V1.ownsRow (w.heap.size+1) 3 1 v' (ty.length+1) (inv ty++[.int .i64 k])) (hg:V.grownBy V1 yv.ownBlock) (hat:v'.ownBlock=yv.ownBlock∨v'.ownBlock=some V.heap.size):
 Blk V1 O 51 #[.int .i64 1,.int .i64 0,.slice none 0 0,nv,yv,.int .i64 0]∧MSt w (V1.setCell ⟨O,4,none⟩ v') c e p O nv v' ns (ty++[k]) M:=by
 have hgw:=Gw.own_of h.yo hg
 have b1:Blk V1 O 51 #[.int .i64 1,.int .i64 0,.slice none 0 0,nv,yv,.int .i64 0]:=app_typed h.nb (by decide) h.yo hg
 refine⟨b1,⟨(h.st.app h.yo (Nat.lt_succ_self _) hg).other h.lo 4 v',b1.set 4 v',h.lo,?_,?_,h.ml,fun j x hj=>?_,h.sz⟩⟩
 ·exact own_typed (own_typed h.no (fun g cur hb=>app_typed hb (by decide) h.yo hg)) (fun g cur hb=>set_typed b1 hb (by decide))
 ·rw[List.length_append,List.length_singleton]
  have e1:inv (ty++[k])=inv ty++[.int .i64 k]:=by unfold inv;rw[List.map_append];rfl
  rw[e1]
  exact own_typed hown (fun g cur hb=>set_typed b1 hb (by decide))
 ·obtain⟨a,h3,h4⟩:=h.mn j x hj
  refine⟨a,h3,?_⟩
  have h1:=h4.mono (G':=fun g=>(w.heap.size<g∧g≠O∧nv.ownBlock≠some g∧v'.ownBlock≠some g)∧yv.ownBlock≠some g) (fun g hg hl=>⟨⟨hg.1,hg.2.1,hg.2.2.1,by
   rcases hat with q|q
   ·rw[q];exact hg.2.2.2
   ·rw[q];intro r;injection r with r;omega⟩,hg.2.2.2⟩)
  exact ((h1.gw hgw (fun k hk q=>q.2 hk)).mono (fun g hg _=>hg.1)).gw (Gw.set V1 O 4 v') (fun k hk q=>q.2.1 hk)
theorem MSt.ok {w V:World}{c:PsC}{e:PsE}{p:Ps}{O:Nat}{nv yv:Value}{ns:List ByteArray}{ty:List Int}{M:List Value}(h:MSt w V c e p O nv yv ns ty M)(hn:ns.length≤1048576)(ht:ty.length≤1048576):(⟨{ ndK 1 with names:=ns,types:=ty },.slice none 0 0,nv,yv⟩:Nv).Ok V (fun g=>w.heap.size<g):=
 ⟨RwG.nil _ _ _ _,⟨M,h.ml,RwG.of_own h.no (fun g hg=>hg),fun j x hj=>by
  obtain⟨u,h3,h4⟩:=h.mn j x hj
  exact⟨u,h3,h4.mono (fun g hg _=>hg.1)⟩⟩,RwG.of_own h.yo (fun g hg=>hg),by show (0:Nat)≤_;omega,hn,fun x hx=>by have:=h.sz x hx;omega,ht⟩
theorem MSt.start {w V V2:World}{c:PsC}{e:PsE}{p:Ps}{u:Value}{s:ByteArray}(h:RSt w V2 c e p)(hu:BG V2 (fun g=>V.heap.size≤g) u s)(hV:w.heap.size<V.heap.size)(hs:s.size≤5000):
 MSt w (set6w ((V2.alloc (.cells #[u] 22)).alloc (.cells #[.int .i64 0,.int .i64 0,.slice none 0 0,.slice none 0 0,.slice none 0 0,.int .i64 0] 51)) (V2.heap.size+1) (.int .i64 1) (.int .i64 0) (.slice none 0 0) (.slice (some ⟨V2.heap.size,0,none⟩) 1 1) (.slice none 0 0) (.int .i64 0)) c e p (V2.heap.size+1) (.slice (some ⟨V2.heap.size,0,none⟩) 1 1) (.slice none 0 0) [s] [] [u]:=by
 have h0:=h.size
 have hb:Below V2.heap.size V2 (V2.alloc (.cells #[u] 22)):=(Below.refl _ _).alloc (Nat.le_refl _) _
 have hb2:Below (V2.alloc (.cells #[u] 22)).heap.size (V2.alloc (.cells #[u] 22)) ((V2.alloc (.cells #[u] 22)).alloc (.cells #[.int .i64 0,.int .i64 0,.slice none 0 0,.slice none 0 0,.slice none 0 0,.int .i64 0] 51)):=(Below.refl _ _).alloc (Nat.le_refl _) _
 have hO:Blk ((V2.alloc (.cells #[u] 22)).alloc (.cells #[.int .i64 0,.int .i64 0,.slice none 0 0,.slice none 0 0,.slice none 0 0,.int .i64 0] 51)) (V2.heap.size+1) 51 #[.int .i64 0,.int .i64 0,.slice none 0 0,.slice none 0 0,.slice none 0 0,.int .i64 0]:=by
  have:=Blk.new (V2.alloc (.cells #[u] 22)) 51 #[.int .i64 0,.int .i64 0,.slice none 0 0,.slice none 0 0,.slice none 0 0,.int .i64 0]
  rwa [World.size_alloc]at this
 have hN:=own_lit (n:=1) (sz:=1) (B:=w.heap.size+1) ((Blk.new V2 22 #[u]).below hb2) (by omega) rfl (by omega)
 have g6:=gw_set6w ((V2.alloc (.cells #[u] 22)).alloc (.cells #[.int .i64 0,.int .i64 0,.slice none 0 0,.slice none 0 0,.slice none 0 0,.int .i64 0] 51)) (V2.heap.size+1) (.int .i64 1) (.int .i64 0) (.slice none 0 0) (.slice (some ⟨V2.heap.size,0,none⟩) 1 1) (.slice none 0 0) (.int .i64 0)
 refine⟨((h.below hb).below hb2).set6w (by omega) _ _ _ _ _ _,hO.set6w _ _ _ _ _ _,by omega,g6.own hN (fun k hk q=>?_),World.ownsRow_nil _ _ _ _,rfl,fun j x hj=>?_,fun x hx=>by rw[List.mem_singleton.1 hx];exact hs⟩
 ·simp only[Value.ownBlock,Option.some.injEq]at hk;omega
 ·cases j with
  |succ j=>simp at hj
  |zero=>
   obtain rfl:s=x:=by simpa using hj
   refine⟨u,rfl,?_⟩
   have h1:=hu.mono (G':=fun g=>w.heap.size<g∧g≠V2.heap.size+1∧(Value.slice (some ⟨V2.heap.size,0,none⟩) 1 1).ownBlock≠some g∧(Value.slice none 0 0).ownBlock≠some g) (fun g hg hl=>⟨by omega,by omega,fun q=>by simp only[Value.ownBlock,Option.some.injEq]at q;omega,fun q=>by simp[Value.ownBlock]at q⟩)
   exact ((h1.gw (P:=fun _=>False) (Gw.of_below hb) (fun _ q=>q.elim)).gw (P:=fun _=>False) (Gw.of_below hb2) (fun _ q=>q.elim)).gw g6 (fun k hk q=>q.2.1 hk)
theorem key_rest {T G:Prop}(rest:Hid T→G)(key:T):G:=rest (hide key)
end Go.Proofs.YtbiakdjpeblclaaGreatDoor

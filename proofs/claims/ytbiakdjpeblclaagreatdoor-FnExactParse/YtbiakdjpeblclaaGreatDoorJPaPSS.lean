/-
  The walk of spec.l2readStat: stations and chargers.
-/
import Derived.Test.YtbiakdjpeblclaaGreatDoorJPaPSU
namespace Go.Proofs.YtbiakdjpeblclaaGreatDoor
open Go.RowKit
set_option maxHeartbeats 8000000 in
set_option maxRecDepth 1000000 in
theorem stat_station {w:World}{c:PsC}{e:PsE}{p:Ps}{f:Nat}(h:PsW w c e p)(hf:2*e.T.length+3≤f)(n0:e.is p (⟨#[105,102]⟩:ByteArray)=false)(n1:e.is p (⟨#[102,111,114]⟩:ByteArray)=false)(n2:e.is p (⟨#[108,101,116]⟩:ByteArray)=false)(n3:e.is p (⟨#[99,97,108,108]⟩:ByteArray)=false)(n4:e.is p (⟨#[103,114,105,100]⟩:ByteArray)=false)(n5:e.is p (⟨#[119,97,108,108]⟩:ByteArray)=false)(n6:e.is p (⟨#[111,112,101,110]⟩:ByteArray)=false)(n7:e.is p (⟨#[108,97,110,101]⟩:ByteArray)=false)(n8:e.is p (⟨#[103,97,116,101]⟩:ByteArray)=false)(n9:e.is p (⟨#[98,97,114]⟩:ByteArray)=false)(n10:e.is p (⟨#[122,111,110,101]⟩:ByteArray)=false)(h1:(e.is p (⟨#[115,116,97,116,105,111,110]⟩:ByteArray)||e.is p (⟨#[99,104,97,114,103,101,114]⟩:ByteArray))=true)(h2:e.is p (⟨#[99,104,97,114,103,101,114]⟩:ByteArray)=false)(h3:e.is p (⟨#[115,116,97,116,105,111,110]⟩:ByteArray)=true):
 Calls Tryz.prog 19 #[.pointer (some ⟨c.P,0,none⟩)] w (ExQ c e w (rFlat e f p)):=by
 have HS0:=hide (RSt.start h)
 have htl:=h.tl
 have hat:=h.at_
 have hpl:=PsE.place_le h
 have HPL:=hide (l2place_any (RSt.start h).ps)
 have hfi:=fi_le (e:=e) p
 have hnu:nu p≤1:=by unfold nu;split<;>omega
 have hBF:=(bd_flat e f p).len
 have HE:Hid (rFlat e f p=rEnd e (ndK 14) (e.place p) ((rE e f 1 p.on).1::(rCell e f (e.want (rE e f 1 p.on).2 (⟨#[97,116]⟩:ByteArray))).1,(rCell e f (e.want (rE e f 1 p.on).2 (⟨#[97,116]⟩:ByteArray))).2)):=by
  show _=_
  unfold rFlat
  rw[if_neg (by rw[n2];exact Bool.false_ne_true),if_neg (by rw[n3];exact Bool.false_ne_true),if_neg (by rw[n4];exact Bool.false_ne_true),if_neg (by rw[n5];exact Bool.false_ne_true),if_neg (by rw[n6];exact Bool.false_ne_true),if_neg (by rw[n7];exact Bool.false_ne_true),if_neg (by rw[n8];exact Bool.false_ne_true),if_neg (by rw[n9];exact Bool.false_ne_true),if_neg (by rw[n10];exact Bool.false_ne_true),if_pos h1,if_neg (by rw[h2];exact Bool.false_ne_true)]
 obtain⟨W0,hW0⟩:∃W,w.alloc (.cells #[.slice none 0 0,.slice none 0 0] 45)=W:=⟨_,rfl⟩
 rw[hW0]at HS0 HPL
 obtain⟨pl,hplE⟩:∃q,e.place p=q:=⟨_,rfl⟩
 rw[hplE]at hpl HPL HE
 rw[HE.out]at hBF ⊢
 simp only[rEnd,ptN_len]at hBF
 have HBF:=hide hBF
 clear h hplE hBF
 have hlt:=(kind_pos (or_kind h1)).2
 obtain⟨X,hX⟩:∃X,rE e f 1 p.on=X:=⟨_,rfl⟩
 rw[hX]at HBF ⊢
 have HXE:=hide hX
 have HKL:Hid ((rCell e f (e.want X.2 (⟨#[97,116]⟩:ByteArray))).1.length=2):=rfl
 obtain⟨Y,hY⟩:∃Y,rCell e f (e.want X.2 (⟨#[97,116]⟩:ByteArray))=Y:=⟨_,rfl⟩
 rw[hY]at HBF HKL ⊢
 have HYE:=hide hY
 clear hX hY
 go_enter Tryz.func19,Tryz.ntmps19
 go_wp2_with fail
 refine HPL.out.mono ?_
 rintro r V ⟨rfl,m0,rfl⟩
 have HS1:=hide (HS0.out.below (below_drewN (Below.refl _ _) m0))
 clear HPL hW0 HS0
 go_wp2_with fail
 refine (l2got_any (⟨#[105,102]⟩:ByteArray) HS1.out.ps).mono ?_
 rw[n0,if_neg Bool.false_ne_true]
 rintro r V ⟨rfl,hq⟩
 have HSa:=hide (HS1.out.rd hq)
 clear hq HS1
 go_wp2_with fail
 refine (l2got_any (⟨#[102,111,114]⟩:ByteArray) HSa.out.ps).mono ?_
 rw[n1,if_neg Bool.false_ne_true]
 rintro r V ⟨rfl,hq⟩
 have HSb:=hide (HSa.out.rd hq)
 clear hq HSa
 obtain⟨Va,hVa⟩:∃W,V.alloc (.cells #[.int .i64 0,.int .i64 0,.slice none 0 0,.slice none 0 0,.slice none 0 0,.int .i64 0] 51)=W:=⟨_,rfl⟩
 have hFn:=FSt.start HSb.out
 rw[hVa]at hFn
 have hOb:Blk Va V.heap.size 51 #[.int .i64 0,.int .i64 0,.slice none 0 0,.slice none 0 0,.slice none 0 0,.int .i64 0]:=by rw[← hVa];exact Blk.new _ _ _
 have o0:=hOb.cell 0
 have of0:=hOb.frozen 0
 have o1:=hOb.cell 1
 have of1:=hOb.frozen 1
 have o2:=hOb.cell 2
 have of2:=hOb.frozen 2
 have o3:=hOb.cell 3
 have of3:=hOb.frozen 3
 have o4:=hOb.cell 4
 have of4:=hOb.frozen 4
 have o5:=hOb.cell 5
 have of5:=hOb.frozen 5
 simp only[List.getElem?_toArray,List.getElem?_cons_succ,List.getElem?_cons_zero]at o0 o1 o2 o3 o4 o5
 obtain⟨Vb,hVb⟩:∃W,set6w Va V.heap.size (.int .i64 0) (.int .i64 0) (.slice none 0 0) (.slice none 0 0) (.slice none 0 0) (.int .i64 0)=W:=⟨_,rfl⟩
 rw[hVb]at hFn
 unfold set6w at hVb
 have HFn:=hide hFn
 clear hFn hOb HSb
 go_wp2_with fail
 obtain⟨O,hO⟩:∃O,V.heap.size=O:=⟨_,rfl⟩
 rw[hO]at HFn ⊢
 clear hO hVa hVb o0 of0 o1 of1 o2 of2 o3 of3 o4 of4 o5 of5
 refine (l2got_any (⟨#[108,101,116]⟩:ByteArray) HFn.out.st.ps).mono ?_
 rw[n2,if_neg Bool.false_ne_true]
 rintro r V ⟨rfl,hq⟩
 have HF2:=hide (HFn.out.rd hq)
 clear hq HFn
 go_wp2_with fail
 refine (l2got_any (⟨#[99,97,108,108]⟩:ByteArray) HF2.out.st.ps).mono ?_
 rw[n3,if_neg Bool.false_ne_true]
 rintro r V ⟨rfl,hq⟩
 have HF3:=hide (HF2.out.rd hq)
 clear hq HF2
 go_wp2_with fail
 refine (l2got_any (⟨#[103,114,105,100]⟩:ByteArray) HF3.out.st.ps).mono ?_
 rw[n4,if_neg Bool.false_ne_true]
 rintro r V ⟨rfl,hq⟩
 have HF4:=hide (HF3.out.rd hq)
 clear hq HF3
 go_wp2_with fail
 refine (l2got_any (⟨#[119,97,108,108]⟩:ByteArray) HF4.out.st.ps).mono ?_
 rw[n5,if_neg Bool.false_ne_true]
 rintro r V ⟨rfl,hq⟩
 have HF5:=hide (HF4.out.rd hq)
 clear hq HF4
 go_wp2_with fail
 refine (l2got_any (⟨#[111,112,101,110]⟩:ByteArray) HF5.out.st.ps).mono ?_
 rw[n6,if_neg Bool.false_ne_true]
 rintro r V ⟨rfl,hq⟩
 have HF6:=hide (HF5.out.rd hq)
 clear hq HF5
 go_wp2_with fail
 refine (l2got_any (⟨#[108,97,110,101]⟩:ByteArray) HF6.out.st.ps).mono ?_
 rw[n7,if_neg Bool.false_ne_true]
 rintro r V ⟨rfl,hq⟩
 have HF7:=hide (HF6.out.rd hq)
 clear hq HF6
 go_wp2_with fail
 refine (l2got_any (⟨#[103,97,116,101]⟩:ByteArray) HF7.out.st.ps).mono ?_
 rw[n8,if_neg Bool.false_ne_true]
 rintro r V ⟨rfl,hq⟩
 have HF8:=hide (HF7.out.rd hq)
 clear hq HF7
 go_wp2_with fail
 refine (l2got_any (⟨#[98,97,114]⟩:ByteArray) HF8.out.st.ps).mono ?_
 rw[n9,if_neg Bool.false_ne_true]
 rintro r V ⟨rfl,hq⟩
 have HF9:=hide (HF8.out.rd hq)
 clear hq HF8
 go_wp2_with fail
 refine (l2got_any (⟨#[122,111,110,101]⟩:ByteArray) HF9.out.st.ps).mono ?_
 rw[n10,if_neg Bool.false_ne_true]
 rintro r V ⟨rfl,hq⟩
 have HF10:=hide (HF9.out.rd hq)
 clear hq HF9
 go_wp2_with fail
 refine (l2is_any (⟨#[115,116,97,116,105,111,110]⟩:ByteArray) HF10.out.st.ps).mono ?_
 rw[h3]
 rintro r V ⟨rfl,hb⟩
 have HG:=hide (HF10.out.below hb)
 clear hb HF10
 have n0:=HG.out.nb.cell 0
 have nf0:=HG.out.nb.frozen 0
 simp only[List.getElem?_toArray,List.getElem?_cons_zero]at n0
 obtain⟨Vk,hVk⟩:∃W,World.setCell V ⟨O,0,none⟩ (.int .i64 14)=W:=⟨_,rfl⟩
 have HGb:=hide (HG.out.setK 14)
 rw[hVk]at HGb
 clear HG
 go_wp2_with fail
 refine (l2is_any (⟨#[99,104,97,114,103,101,114]⟩:ByteArray) HGb.out.st.ps).mono ?_
 rw[h2]
 rintro r Vc1 ⟨rfl,hb⟩
 have HGc:=hide (HGb.out.below hb)
 clear hb HGb
 have g2:=HGc.out.st.ps.cells.2.2.1
 have fz2:=HGc.out.st.ps.fz 2
 obtain⟨Vo,hVo⟩:∃W,World.setCell Vc1 ⟨c.P,2,none⟩ (.int .i64 ((p.at_:Nat)+1:Int))=W:=⟨_,rfl⟩
 have hq:RdQ c e p.on Vc1 Vo:=by rw[← hVo];exact HGc.out.st.ps.one (p':=p.on) rfl (by show p.at_+1≤_;omega) HGc.out.st.ps.bad
 have HG1:=hide (HGc.out.rd hq)
 clear hq HGc
 have HK1:=hide (KO.nil Vo (O+1) (fun g=>O+1≤g))
 have HCX:=hide (ex_any HG1.out.st.ps hf)
 rw[HXE.out]at HCX
 go_wp2_with fail
 refine (HCX.out).mono ?_
 rintro r V4 ⟨vt,vp,rfl,hv,hq⟩
 have HSx:=hide (HG1.out.rd hq)
 have HKx:=hide (HK1.out.rdF HG1.out hq)
 obtain⟨xa4,xc4,xb4,xd4,rfl,rfl,_,_⟩:=hv.slc
 have HMx:=hide (ms_lastG HK1.out (fun g hg=>Nat.le_trans HG1.out.bsz hg) hv (.cells #[.slice (some ⟨xa4,0,none⟩) X.1.t.length xc4,.slice (some ⟨xb4,0,none⟩) X.1.t.length xd4] 45))
 have hbA:Below V4.heap.size V4 (V4.alloc (.cells #[.slice (some ⟨xa4,0,none⟩) X.1.t.length xc4,.slice (some ⟨xb4,0,none⟩) X.1.t.length xd4] 45)):=(Below.refl _ _).alloc (Nat.le_refl _) _
 have HBx:=hide (Cs.of_blk (Blk.new V4 45 #[.slice (some ⟨xa4,0,none⟩) X.1.t.length xc4,.slice (some ⟨xb4,0,none⟩) X.1.t.length xd4]))
 have HSy:=hide (HSx.out.below hbA)
 have HKy:=hide (HKx.out.bel hbA)
 clear hv hq hbA HG1 HK1 HSx HKx
 go_wp2_with (at_builtin;refine wp_appKO rfl (.tmp 168) (.tmp 171) rfl (O+1) rfl HKy.out V4.heap.size 1 1 rfl rfl HMx.out HBx.out (by simp) (HSy.out.bsz) ?_)
 intro v' V4b hk4 hg4
 have HG4:=hide (HSy.out.appK HKy.out (Nat.le_refl _) hg4)
 have HK4:=hide hk4
 obtain⟨wa4,wc4,rfl⟩:=hk4.slc
 clear hk4 hg4 HSy HKy HMx HBx
 go_wp2_with fail
 refine (l2want_any (⟨#[97,116]⟩:ByteArray) HG4.out.st.ps).mono ?_
 rintro r V5 ⟨rfl,hq⟩
 have HG5:=hide (HG4.out.rd hq)
 have HK5:=hide (HK4.out.rdF HG4.out hq)
 clear hq HG4 HK4
 have HCY:=hide (cell_any HG5.out.st.ps hf)
 rw[HYE.out]at HCY
 go_wp2_with fail
 refine HCY.out.mono ?_
 rintro r V6 ⟨v2,rfl,hk,hq⟩
 have HG6:=hide (HG5.out.rd hq)
 have HK6:=hide (HK5.out.rdF HG5.out hq)
 obtain⟨M2,ho2,hm2⟩:=hk
 have hs2:=HG5.out.bsz
 have hkl:∀k,(Value.slice wa4 ([]++[X.1]).length wc4).ownBlock=some k→k<V5.heap.size:=fun k hk=>by
  obtain⟨M1,ho1,_⟩:=HK5.out
  exact (ho1.lt k hk).2
 have HM2:=hide (hm2.mono (G':=fun g=>O+1≤g∧(Value.slice wa4 ([]++[X.1]).length wc4).ownBlock≠some g) (fun g hg _=>⟨Nat.le_trans hs2 hg.1,fun q=>by have:=hkl g q;have:=hg.1;omega⟩))
 obtain⟨a3,g3,c3,e3,h3a,h3c⟩:=RwG.of_own (G:=fun _=>True) ho2 (fun _ _=>trivial)
 obtain⟨h3a,_⟩:=h3a (by rw[HKL.out];omega)
 subst h3a
 subst e3
 have HC3:=hide (h3c (by rw[HKL.out];omega))
 clear hq hm2 ho2 h3c HK5 hkl
 go_wp2_with (at_builtin;refine wp_appKO rfl (.tmp 175) (.tmp 177) rfl (O+1) rfl HK6.out g3 c3 Y.1.length rfl rfl HM2.out HC3.out (by rw[HKL.out];simp) HG6.out.bsz ?_)
 intro v' V7 hk4 hg4
 have HG7:=hide (HG6.out.appK HK6.out (Nat.le_refl _) hg4)
 have hk5:KO V7 (O+1) (fun g=>O+1≤g) v' (X.1::Y.1):=hk4
 obtain⟨KS,hKS⟩:∃K,X.1::Y.1=K:=⟨_,rfl⟩
 rw[hKS]at hk5
 have HKS:=hide hKS
 have HK7:=hide hk5
 obtain⟨va7,vc7,rfl⟩:=hk5.slc
 clear hk4 hk5 hg4 HG6 HK6 HM2 HC3 hKS
 go_wp2_with fail
 refine (l2want_any (⟨#[59]⟩:ByteArray) HG7.out.st.ps).mono ?_
 rintro r Vw ⟨rfl,hq⟩
 have hSt:=HG7.out.rd hq
 have hKt:=HK7.out.rdF HG7.out hq
 have hlo:=hSt.lo
 have HPR:=hide ((hKt.mono (G':=fun g=>w.heap.size<g) (fun g hg _=>by omega)).pr (fun g hg=>by omega))
 have HOK:=hide (hSt.ok.mono (G':=fun g=>w.heap.size<g) (fun g hg _=>by omega))
 have m0:=hSt.nb.cell 0
 have m1:=hSt.nb.cell 1
 have m2:=hSt.nb.cell 2
 have m3:=hSt.nb.cell 3
 have m4:=hSt.nb.cell 4
 have m5:=hSt.nb.cell 5
 simp only[List.getElem?_toArray,List.getElem?_cons_succ,List.getElem?_cons_zero]at m0 m1 m2 m3 m4 m5
 have HSr:=hide hSt.st
 have hbf:=HBF.out
 rw[HKS.out]at hbf
 clear hq hSt hKt hlo HG7 HK7
 go_wp2_with fail
 refine (l2node_any (m:=⟨ndK 14,.slice none 0 0,.slice none 0 0,.slice none 0 0⟩) (pl:=pl) (G:=fun g=>w.heap.size<g) (HOK.out) (HPR.out) (fun g hg=>Nat.lt_of_lt_of_le HSr.out.size hg) (by omega) (by rw[← HKS.out,List.length_cons,HKL.out];omega)).mono ?_
 rintro r Vz ⟨vt,vp,rfl,hv,hbz⟩
 have HF:=hide (HSr.out.below hbz)
 obtain⟨ga,gc,gb,gd,rfl,rfl,_,_⟩:=hv.slc
 have HV:=hide hv
 have r0:=HF.out.res.cell 0
 have r1:=HF.out.res.cell 1
 have f0:=HF.out.res.frozen 0
 have f1:=HF.out.res.frozen 1
 simp only[List.getElem?_toArray,List.getElem?_cons_succ,List.getElem?_cons_zero]at r0 r1
 clear hv hbz
 go_wp2_with fail
 refine bodyPost_ret (results_one rfl _ _ _ w.heap.size 45 _ (0,0) rfl ((HF.out.res.set 0 _).set 1 _) Tryz.underlying45 (by kernel_rfl)) rfl ?_
 rw[HKS.out]
 exact HF.out.fin HV.out
set_option maxHeartbeats 8000000 in
set_option maxRecDepth 1000000 in
theorem stat_charger {w:World}{c:PsC}{e:PsE}{p:Ps}{f:Nat}(h:PsW w c e p)(hf:2*e.T.length+3≤f)(n0:e.is p (⟨#[105,102]⟩:ByteArray)=false)(n1:e.is p (⟨#[102,111,114]⟩:ByteArray)=false)(n2:e.is p (⟨#[108,101,116]⟩:ByteArray)=false)(n3:e.is p (⟨#[99,97,108,108]⟩:ByteArray)=false)(n4:e.is p (⟨#[103,114,105,100]⟩:ByteArray)=false)(n5:e.is p (⟨#[119,97,108,108]⟩:ByteArray)=false)(n6:e.is p (⟨#[111,112,101,110]⟩:ByteArray)=false)(n7:e.is p (⟨#[108,97,110,101]⟩:ByteArray)=false)(n8:e.is p (⟨#[103,97,116,101]⟩:ByteArray)=false)(n9:e.is p (⟨#[98,97,114]⟩:ByteArray)=false)(n10:e.is p (⟨#[122,111,110,101]⟩:ByteArray)=false)(h1:(e.is p (⟨#[115,116,97,116,105,111,110]⟩:ByteArray)||e.is p (⟨#[99,104,97,114,103,101,114]⟩:ByteArray))=true)(h2:e.is p (⟨#[99,104,97,114,103,101,114]⟩:ByteArray)=true)(h3:e.is p (⟨#[115,116,97,116,105,111,110]⟩:ByteArray)=false):
 Calls Tryz.prog 19 #[.pointer (some ⟨c.P,0,none⟩)] w (ExQ c e w (rFlat e f p)):=by
 have HS0:=hide (RSt.start h)
 have htl:=h.tl
 have hat:=h.at_
 have hpl:=PsE.place_le h
 have HPL:=hide (l2place_any (RSt.start h).ps)
 have hfi:=fi_le (e:=e) p
 have hnu:nu p≤1:=by unfold nu;split<;>omega
 have hBF:=(bd_flat e f p).len
 have HE:Hid (rFlat e f p=rEnd e (ndK 15) (e.place p) ((rE e f 1 p.on).1::(rCell e f (e.want (rE e f 1 p.on).2 (⟨#[97,116]⟩:ByteArray))).1,(rCell e f (e.want (rE e f 1 p.on).2 (⟨#[97,116]⟩:ByteArray))).2)):=by
  show _=_
  unfold rFlat
  rw[if_neg (by rw[n2];exact Bool.false_ne_true),if_neg (by rw[n3];exact Bool.false_ne_true),if_neg (by rw[n4];exact Bool.false_ne_true),if_neg (by rw[n5];exact Bool.false_ne_true),if_neg (by rw[n6];exact Bool.false_ne_true),if_neg (by rw[n7];exact Bool.false_ne_true),if_neg (by rw[n8];exact Bool.false_ne_true),if_neg (by rw[n9];exact Bool.false_ne_true),if_neg (by rw[n10];exact Bool.false_ne_true),if_pos h1,if_pos h2]
 obtain⟨W0,hW0⟩:∃W,w.alloc (.cells #[.slice none 0 0,.slice none 0 0] 45)=W:=⟨_,rfl⟩
 rw[hW0]at HS0 HPL
 obtain⟨pl,hplE⟩:∃q,e.place p=q:=⟨_,rfl⟩
 rw[hplE]at hpl HPL HE
 rw[HE.out]at hBF ⊢
 simp only[rEnd,ptN_len]at hBF
 have HBF:=hide hBF
 clear h hplE hBF
 have hlt:=(kind_pos (or_kind h1)).2
 obtain⟨X,hX⟩:∃X,rE e f 1 p.on=X:=⟨_,rfl⟩
 rw[hX]at HBF ⊢
 have HXE:=hide hX
 have HKL:Hid ((rCell e f (e.want X.2 (⟨#[97,116]⟩:ByteArray))).1.length=2):=rfl
 obtain⟨Y,hY⟩:∃Y,rCell e f (e.want X.2 (⟨#[97,116]⟩:ByteArray))=Y:=⟨_,rfl⟩
 rw[hY]at HBF HKL ⊢
 have HYE:=hide hY
 clear hX hY
 go_enter Tryz.func19,Tryz.ntmps19
 go_wp2_with fail
 refine HPL.out.mono ?_
 rintro r V ⟨rfl,m0,rfl⟩
 have HS1:=hide (HS0.out.below (below_drewN (Below.refl _ _) m0))
 clear HPL hW0 HS0
 go_wp2_with fail
 refine (l2got_any (⟨#[105,102]⟩:ByteArray) HS1.out.ps).mono ?_
 rw[n0,if_neg Bool.false_ne_true]
 rintro r V ⟨rfl,hq⟩
 have HSa:=hide (HS1.out.rd hq)
 clear hq HS1
 go_wp2_with fail
 refine (l2got_any (⟨#[102,111,114]⟩:ByteArray) HSa.out.ps).mono ?_
 rw[n1,if_neg Bool.false_ne_true]
 rintro r V ⟨rfl,hq⟩
 have HSb:=hide (HSa.out.rd hq)
 clear hq HSa
 obtain⟨Va,hVa⟩:∃W,V.alloc (.cells #[.int .i64 0,.int .i64 0,.slice none 0 0,.slice none 0 0,.slice none 0 0,.int .i64 0] 51)=W:=⟨_,rfl⟩
 have hFn:=FSt.start HSb.out
 rw[hVa]at hFn
 have hOb:Blk Va V.heap.size 51 #[.int .i64 0,.int .i64 0,.slice none 0 0,.slice none 0 0,.slice none 0 0,.int .i64 0]:=by rw[← hVa];exact Blk.new _ _ _
 have o0:=hOb.cell 0
 have of0:=hOb.frozen 0
 have o1:=hOb.cell 1
 have of1:=hOb.frozen 1
 have o2:=hOb.cell 2
 have of2:=hOb.frozen 2
 have o3:=hOb.cell 3
 have of3:=hOb.frozen 3
 have o4:=hOb.cell 4
 have of4:=hOb.frozen 4
 have o5:=hOb.cell 5
 have of5:=hOb.frozen 5
 simp only[List.getElem?_toArray,List.getElem?_cons_succ,List.getElem?_cons_zero]at o0 o1 o2 o3 o4 o5
 obtain⟨Vb,hVb⟩:∃W,set6w Va V.heap.size (.int .i64 0) (.int .i64 0) (.slice none 0 0) (.slice none 0 0) (.slice none 0 0) (.int .i64 0)=W:=⟨_,rfl⟩
 rw[hVb]at hFn
 unfold set6w at hVb
 have HFn:=hide hFn
 clear hFn hOb HSb
 go_wp2_with fail
 obtain⟨O,hO⟩:∃O,V.heap.size=O:=⟨_,rfl⟩
 rw[hO]at HFn ⊢
 clear hO hVa hVb o0 of0 o1 of1 o2 of2 o3 of3 o4 of4 o5 of5
 refine (l2got_any (⟨#[108,101,116]⟩:ByteArray) HFn.out.st.ps).mono ?_
 rw[n2,if_neg Bool.false_ne_true]
 rintro r V ⟨rfl,hq⟩
 have HF2:=hide (HFn.out.rd hq)
 clear hq HFn
 go_wp2_with fail
 refine (l2got_any (⟨#[99,97,108,108]⟩:ByteArray) HF2.out.st.ps).mono ?_
 rw[n3,if_neg Bool.false_ne_true]
 rintro r V ⟨rfl,hq⟩
 have HF3:=hide (HF2.out.rd hq)
 clear hq HF2
 go_wp2_with fail
 refine (l2got_any (⟨#[103,114,105,100]⟩:ByteArray) HF3.out.st.ps).mono ?_
 rw[n4,if_neg Bool.false_ne_true]
 rintro r V ⟨rfl,hq⟩
 have HF4:=hide (HF3.out.rd hq)
 clear hq HF3
 go_wp2_with fail
 refine (l2got_any (⟨#[119,97,108,108]⟩:ByteArray) HF4.out.st.ps).mono ?_
 rw[n5,if_neg Bool.false_ne_true]
 rintro r V ⟨rfl,hq⟩
 have HF5:=hide (HF4.out.rd hq)
 clear hq HF4
 go_wp2_with fail
 refine (l2got_any (⟨#[111,112,101,110]⟩:ByteArray) HF5.out.st.ps).mono ?_
 rw[n6,if_neg Bool.false_ne_true]
 rintro r V ⟨rfl,hq⟩
 have HF6:=hide (HF5.out.rd hq)
 clear hq HF5
 go_wp2_with fail
 refine (l2got_any (⟨#[108,97,110,101]⟩:ByteArray) HF6.out.st.ps).mono ?_
 rw[n7,if_neg Bool.false_ne_true]
 rintro r V ⟨rfl,hq⟩
 have HF7:=hide (HF6.out.rd hq)
 clear hq HF6
 go_wp2_with fail
 refine (l2got_any (⟨#[103,97,116,101]⟩:ByteArray) HF7.out.st.ps).mono ?_
 rw[n8,if_neg Bool.false_ne_true]
 rintro r V ⟨rfl,hq⟩
 have HF8:=hide (HF7.out.rd hq)
 clear hq HF7
 go_wp2_with fail
 refine (l2got_any (⟨#[98,97,114]⟩:ByteArray) HF8.out.st.ps).mono ?_
 rw[n9,if_neg Bool.false_ne_true]
 rintro r V ⟨rfl,hq⟩
 have HF9:=hide (HF8.out.rd hq)
 clear hq HF8
 go_wp2_with fail
 refine (l2got_any (⟨#[122,111,110,101]⟩:ByteArray) HF9.out.st.ps).mono ?_
 rw[n10,if_neg Bool.false_ne_true]
 rintro r V ⟨rfl,hq⟩
 have HF10:=hide (HF9.out.rd hq)
 clear hq HF9
 go_wp2_with fail
 refine (l2is_any (⟨#[115,116,97,116,105,111,110]⟩:ByteArray) HF10.out.st.ps).mono ?_
 rw[h3]
 rintro r V ⟨rfl,hb⟩
 have HG:=hide (HF10.out.below hb)
 clear hb HF10
 go_wp2_with fail
 refine (l2is_any (⟨#[99,104,97,114,103,101,114]⟩:ByteArray) HG.out.st.ps).mono ?_
 rw[h2]
 rintro r Va1 ⟨rfl,hb⟩
 have HGa:=hide (HG.out.below hb)
 clear hb HG
 have n0:=HGa.out.nb.cell 0
 have nf0:=HGa.out.nb.frozen 0
 simp only[List.getElem?_toArray,List.getElem?_cons_zero]at n0
 obtain⟨Vk,hVk⟩:∃W,World.setCell Va1 ⟨O,0,none⟩ (.int .i64 14)=W:=⟨_,rfl⟩
 have HGb:=hide (HGa.out.setK 14)
 rw[hVk]at HGb
 clear HGa
 go_wp2_with fail
 refine (l2is_any (⟨#[99,104,97,114,103,101,114]⟩:ByteArray) HGb.out.st.ps).mono ?_
 rw[h2]
 rintro r Vc1 ⟨rfl,hb⟩
 have HGc:=hide (HGb.out.below hb)
 clear hb HGb
 have nn0:=HGc.out.nb.cell 0
 have nnf0:=HGc.out.nb.frozen 0
 simp only[List.getElem?_toArray,List.getElem?_cons_zero]at nn0
 obtain⟨Vk2,hVk2⟩:∃W,World.setCell Vc1 ⟨O,0,none⟩ (.int .i64 15)=W:=⟨_,rfl⟩
 have HGd:=hide (HGc.out.setK 15)
 rw[hVk2]at HGd
 clear HGc
 have g2:=HGd.out.st.ps.cells.2.2.1
 have fz2:=HGd.out.st.ps.fz 2
 obtain⟨Vo,hVo⟩:∃W,World.setCell Vk2 ⟨c.P,2,none⟩ (.int .i64 ((p.at_:Nat)+1:Int))=W:=⟨_,rfl⟩
 have hq:RdQ c e p.on Vk2 Vo:=by rw[← hVo];exact HGd.out.st.ps.one (p':=p.on) rfl (by show p.at_+1≤_;omega) HGd.out.st.ps.bad
 have HG1:=hide (HGd.out.rd hq)
 clear hq HGd
 have HK1:=hide (KO.nil Vo (O+1) (fun g=>O+1≤g))
 have HCX:=hide (ex_any HG1.out.st.ps hf)
 rw[HXE.out]at HCX
 go_wp2_with fail
 refine (HCX.out).mono ?_
 rintro r V4 ⟨vt,vp,rfl,hv,hq⟩
 have HSx:=hide (HG1.out.rd hq)
 have HKx:=hide (HK1.out.rdF HG1.out hq)
 obtain⟨xa4,xc4,xb4,xd4,rfl,rfl,_,_⟩:=hv.slc
 have HMx:=hide (ms_lastG HK1.out (fun g hg=>Nat.le_trans HG1.out.bsz hg) hv (.cells #[.slice (some ⟨xa4,0,none⟩) X.1.t.length xc4,.slice (some ⟨xb4,0,none⟩) X.1.t.length xd4] 45))
 have hbA:Below V4.heap.size V4 (V4.alloc (.cells #[.slice (some ⟨xa4,0,none⟩) X.1.t.length xc4,.slice (some ⟨xb4,0,none⟩) X.1.t.length xd4] 45)):=(Below.refl _ _).alloc (Nat.le_refl _) _
 have HBx:=hide (Cs.of_blk (Blk.new V4 45 #[.slice (some ⟨xa4,0,none⟩) X.1.t.length xc4,.slice (some ⟨xb4,0,none⟩) X.1.t.length xd4]))
 have HSy:=hide (HSx.out.below hbA)
 have HKy:=hide (HKx.out.bel hbA)
 clear hv hq hbA HG1 HK1 HSx HKx
 go_wp2_with (at_builtin;refine wp_appKO rfl (.tmp 168) (.tmp 171) rfl (O+1) rfl HKy.out V4.heap.size 1 1 rfl rfl HMx.out HBx.out (by simp) (HSy.out.bsz) ?_)
 intro v' V4b hk4 hg4
 have HG4:=hide (HSy.out.appK HKy.out (Nat.le_refl _) hg4)
 have HK4:=hide hk4
 obtain⟨wa4,wc4,rfl⟩:=hk4.slc
 clear hk4 hg4 HSy HKy HMx HBx
 go_wp2_with fail
 refine (l2want_any (⟨#[97,116]⟩:ByteArray) HG4.out.st.ps).mono ?_
 rintro r V5 ⟨rfl,hq⟩
 have HG5:=hide (HG4.out.rd hq)
 have HK5:=hide (HK4.out.rdF HG4.out hq)
 clear hq HG4 HK4
 have HCY:=hide (cell_any HG5.out.st.ps hf)
 rw[HYE.out]at HCY
 go_wp2_with fail
 refine HCY.out.mono ?_
 rintro r V6 ⟨v2,rfl,hk,hq⟩
 have HG6:=hide (HG5.out.rd hq)
 have HK6:=hide (HK5.out.rdF HG5.out hq)
 obtain⟨M2,ho2,hm2⟩:=hk
 have hs2:=HG5.out.bsz
 have hkl:∀k,(Value.slice wa4 ([]++[X.1]).length wc4).ownBlock=some k→k<V5.heap.size:=fun k hk=>by
  obtain⟨M1,ho1,_⟩:=HK5.out
  exact (ho1.lt k hk).2
 have HM2:=hide (hm2.mono (G':=fun g=>O+1≤g∧(Value.slice wa4 ([]++[X.1]).length wc4).ownBlock≠some g) (fun g hg _=>⟨Nat.le_trans hs2 hg.1,fun q=>by have:=hkl g q;have:=hg.1;omega⟩))
 obtain⟨a3,g3,c3,e3,h3a,h3c⟩:=RwG.of_own (G:=fun _=>True) ho2 (fun _ _=>trivial)
 obtain⟨h3a,_⟩:=h3a (by rw[HKL.out];omega)
 subst h3a
 subst e3
 have HC3:=hide (h3c (by rw[HKL.out];omega))
 clear hq hm2 ho2 h3c HK5 hkl
 go_wp2_with (at_builtin;refine wp_appKO rfl (.tmp 175) (.tmp 177) rfl (O+1) rfl HK6.out g3 c3 Y.1.length rfl rfl HM2.out HC3.out (by rw[HKL.out];simp) HG6.out.bsz ?_)
 intro v' V7 hk4 hg4
 have HG7:=hide (HG6.out.appK HK6.out (Nat.le_refl _) hg4)
 have hk5:KO V7 (O+1) (fun g=>O+1≤g) v' (X.1::Y.1):=hk4
 obtain⟨KS,hKS⟩:∃K,X.1::Y.1=K:=⟨_,rfl⟩
 rw[hKS]at hk5
 have HKS:=hide hKS
 have HK7:=hide hk5
 obtain⟨va7,vc7,rfl⟩:=hk5.slc
 clear hk4 hk5 hg4 HG6 HK6 HM2 HC3 hKS
 go_wp2_with fail
 refine (l2want_any (⟨#[59]⟩:ByteArray) HG7.out.st.ps).mono ?_
 rintro r Vw ⟨rfl,hq⟩
 have hSt:=HG7.out.rd hq
 have hKt:=HK7.out.rdF HG7.out hq
 have hlo:=hSt.lo
 have HPR:=hide ((hKt.mono (G':=fun g=>w.heap.size<g) (fun g hg _=>by omega)).pr (fun g hg=>by omega))
 have HOK:=hide (hSt.ok.mono (G':=fun g=>w.heap.size<g) (fun g hg _=>by omega))
 have m0:=hSt.nb.cell 0
 have m1:=hSt.nb.cell 1
 have m2:=hSt.nb.cell 2
 have m3:=hSt.nb.cell 3
 have m4:=hSt.nb.cell 4
 have m5:=hSt.nb.cell 5
 simp only[List.getElem?_toArray,List.getElem?_cons_succ,List.getElem?_cons_zero]at m0 m1 m2 m3 m4 m5
 have HSr:=hide hSt.st
 have hbf:=HBF.out
 rw[HKS.out]at hbf
 clear hq hSt hKt hlo HG7 HK7
 go_wp2_with fail
 refine (l2node_any (m:=⟨ndK 15,.slice none 0 0,.slice none 0 0,.slice none 0 0⟩) (pl:=pl) (G:=fun g=>w.heap.size<g) (HOK.out) (HPR.out) (fun g hg=>Nat.lt_of_lt_of_le HSr.out.size hg) (by omega) (by rw[← HKS.out,List.length_cons,HKL.out];omega)).mono ?_
 rintro r Vz ⟨vt,vp,rfl,hv,hbz⟩
 have HF:=hide (HSr.out.below hbz)
 obtain⟨ga,gc,gb,gd,rfl,rfl,_,_⟩:=hv.slc
 have HV:=hide hv
 have r0:=HF.out.res.cell 0
 have r1:=HF.out.res.cell 1
 have f0:=HF.out.res.frozen 0
 have f1:=HF.out.res.frozen 1
 simp only[List.getElem?_toArray,List.getElem?_cons_succ,List.getElem?_cons_zero]at r0 r1
 clear hv hbz
 go_wp2_with fail
 refine bodyPost_ret (results_one rfl _ _ _ w.heap.size 45 _ (0,0) rfl ((HF.out.res.set 0 _).set 1 _) Tryz.underlying45 (by kernel_rfl)) rfl ?_
 rw[HKS.out]
 exact HF.out.fin HV.out
set_option maxHeartbeats 8000000 in
set_option maxRecDepth 1000000 in
theorem stat_for {w:World}{c:PsC}{e:PsE}{p:Ps}{f m:Nat}(h:PsW w c e p)(hf:2*e.T.length+3≤f)(BL:BlC c e f m)(hm:lft e p≤m)(n0:e.is p (⟨#[105,102]⟩:ByteArray)=false)(h1:e.is p (⟨#[102,111,114]⟩:ByteArray)=true):
 Calls Tryz.prog 19 #[.pointer (some ⟨c.P,0,none⟩)] w (ExQ c e w (rS e f (m+1) p)):=by
 have HS0:=hide (RSt.start h)
 have htl:=h.tl
 have hpl:=PsE.place_le h
 have HPL:=hide (l2place_any (RSt.start h).ps)
 have hfi:=fi_le (e:=e) p
 have hnu:nu p≤1:=by unfold nu;split<;>omega
 have hBF:=(bd_stat e f (m+1) p).len
 have hMO:=(mv_on (is_kind h1)).1
 have HE:Hid (rS e f (m+1) p=(ptN { ndK 5 with names:=[(e.ident p.on).1] } (e.place p) [(rE e f 1 (e.want (e.ident p.on).2 (⟨#[61]⟩:ByteArray))).1,(rE e f 1 (e.want (rE e f 1 (e.want (e.ident p.on).2 (⟨#[61]⟩:ByteArray))).2 (⟨#[116,111]⟩:ByteArray))).1,(rBlock e e.T.length (rS e f m) (rE e f 1 (e.want (rE e f 1 (e.want (e.ident p.on).2 (⟨#[61]⟩:ByteArray))).2 (⟨#[116,111]⟩:ByteArray))).2).1],(rBlock e e.T.length (rS e f m) (rE e f 1 (e.want (rE e f 1 (e.want (e.ident p.on).2 (⟨#[61]⟩:ByteArray))).2 (⟨#[116,111]⟩:ByteArray))).2).2)):=by
  show _=_
  rw[rS]
  simp only
  rw[if_neg (by rw[n0];exact Bool.false_ne_true),if_pos h1]
 obtain⟨W0,hW0⟩:∃W,w.alloc (.cells #[.slice none 0 0,.slice none 0 0] 45)=W:=⟨_,rfl⟩
 rw[hW0]at HS0 HPL
 obtain⟨pl,hplE⟩:∃q,e.place p=q:=⟨_,rfl⟩
 rw[hplE]at hpl HPL HE
 rw[HE.out]at hBF ⊢
 simp only[ptN_len]at hBF
 have hMI:=hMO.trans (mv_ident e p.on).1
 obtain⟨I,hI⟩:∃I,e.ident p.on=I:=⟨_,rfl⟩
 rw[hI]at hBF hMI ⊢
 have HIE:=hide hI
 have hMX:=(hMI.trans (mv_want e _ (⟨#[61]⟩:ByteArray)).1).trans ((mv_expr e f).1 1 _)
 obtain⟨X,hX⟩:∃X,rE e f 1 (e.want I.2 (⟨#[61]⟩:ByteArray))=X:=⟨_,rfl⟩
 rw[hX]at hBF hMX ⊢
 have HXE:=hide hX
 have hMY:=(hMX.trans (mv_want e _ (⟨#[116,111]⟩:ByteArray)).1).trans ((mv_expr e f).1 1 _)
 obtain⟨Y,hY⟩:∃Y,rE e f 1 (e.want X.2 (⟨#[116,111]⟩:ByteArray))=Y:=⟨_,rfl⟩
 rw[hY]at hBF hMY ⊢
 have HYE:=hide hY
 have HBL:Hid (∀V,PsW V c e Y.2→Calls Tryz.prog 38 #[.pointer (some ⟨c.P,0,none⟩)] V (ExQ c e V (rBlock e e.T.length (rS e f m) Y.2))):=fun V hV=>BL V Y.2 hV (by have:=hMY.le;unfold lft at hm ⊢;omega)
 obtain⟨Q,hQ⟩:∃Q,rBlock e e.T.length (rS e f m) Y.2=Q:=⟨_,rfl⟩
 rw[hQ]at hBF HBL ⊢
 have HBF:=hide hBF
 clear h BL hplE hBF hI hX hY hQ hMO hMI hMX hMY hm
 go_enter Tryz.func19,Tryz.ntmps19
 go_wp2_with fail
 refine HPL.out.mono ?_
 rintro r V ⟨rfl,m0,rfl⟩
 have HS1:=hide (HS0.out.below (below_drewN (Below.refl _ _) m0))
 clear HPL hW0 HS0
 go_wp2_with fail
 refine (l2got_any (⟨#[105,102]⟩:ByteArray) HS1.out.ps).mono ?_
 rw[n0,if_neg Bool.false_ne_true]
 rintro r V ⟨rfl,hq⟩
 have HSa:=hide (HS1.out.rd hq)
 clear hq HS1
 go_wp2_with fail
 refine (l2got_any (⟨#[102,111,114]⟩:ByteArray) HSa.out.ps).mono ?_
 rw[h1,if_pos rfl]
 rintro r V ⟨rfl,hq⟩
 have HSb:=hide (HSa.out.rd hq)
 clear hq HSa
 go_wp2_with fail
 refine (l2ident_any HSb.out.ps).mono ?_
 rintro r V2 ⟨⟨u,rfl,hu,hus⟩,hq⟩
 rw[HIE.out]at hu hus hq
 have hS2:=HSb.out.rd hq
 obtain⟨ua,uc,rfl⟩:=hu.slc
 have hNm:=FSt.forS (k:=5) hS2 hu HSb.out.size (by omega)
 obtain⟨Vc,hVc⟩:∃W,(V2.alloc (.cells #[.slice ua I.1.size uc] 22)).alloc (.cells #[.int .i64 0,.int .i64 0,.slice none 0 0,.slice none 0 0,.slice none 0 0,.int .i64 0] 51)=W:=⟨_,rfl⟩
 have hOb:Blk Vc (V2.heap.size+1) 51 #[.int .i64 0,.int .i64 0,.slice none 0 0,.slice none 0 0,.slice none 0 0,.int .i64 0]:=by
  have h:=Blk.new (V2.alloc (.cells #[.slice ua I.1.size uc] 22)) 51 #[.int .i64 0,.int .i64 0,.slice none 0 0,.slice none 0 0,.slice none 0 0,.int .i64 0]
  rw[World.size_alloc]at h
  rw[← hVc];exact h
 have o0:=hOb.cell 0
 have of0:=hOb.frozen 0
 have o1:=hOb.cell 1
 have of1:=hOb.frozen 1
 have o2:=hOb.cell 2
 have of2:=hOb.frozen 2
 have o3:=hOb.cell 3
 have of3:=hOb.frozen 3
 have o4:=hOb.cell 4
 have of4:=hOb.frozen 4
 have o5:=hOb.cell 5
 have of5:=hOb.frozen 5
 simp only[List.getElem?_toArray,List.getElem?_cons_succ,List.getElem?_cons_zero]at o0 o1 o2 o3 o4 o5
 obtain⟨Vd,hVd⟩:∃W,set6w Vc (V2.heap.size+1) (.int .i64 5) (.int .i64 0) (.slice none 0 0) (.slice (some ⟨V2.heap.size,0,none⟩) 1 1) (.slice none 0 0) (.int .i64 0)=W:=⟨_,rfl⟩
 rw[hVc,hVd]at hNm
 unfold set6w at hVd
 have HG:=hide hNm
 clear hu hq hS2 hNm hOb HSb
 go_wp2_with fail
 obtain⟨NB,hNB⟩:∃O,V2.heap.size=O:=⟨_,rfl⟩
 rw[hNB]at HG ⊢
 clear hNB hVc hVd o0 of0 o1 of1 o2 of2 o3 of3 o4 of4 o5 of5
 refine (l2want_any (⟨#[61]⟩:ByteArray) HG.out.st.ps).mono ?_
 rintro r V3 ⟨rfl,hq⟩
 have HG1:=hide (HG.out.rd hq)
 clear hq HG
 have HCX:=hide (ex_any HG1.out.st.ps hf)
 rw[HXE.out]at HCX
 go_wp2_with fail
 refine HCX.out.mono ?_
 rintro r V4 ⟨vt,vp,rfl,hv,hq⟩
 have HG2:=hide (HG1.out.rd hq)
 obtain⟨xa,xc,xb,xd,rfl,rfl,_,_⟩:=hv.slc
 have HK3:=hide (ko_first (G:=fun g=>NB+2≤g) (B:=NB+2) (fun g hg=>Nat.le_trans HG1.out.bsz hg) HG2.out.bsz hv)
 have HG3:=hide (HG2.out.below ((Below.refl V4.heap.size V4).alloc (Nat.le_refl _) (.cells #[.slice (some ⟨xa,0,none⟩) X.1.t.length xc,.slice (some ⟨xb,0,none⟩) X.1.t.length xd] 45)))
 clear hv hq HG1 HG2 HCX
 go_wp2_with fail
 refine (l2want_any (⟨#[116,111]⟩:ByteArray) HG3.out.st.ps).mono ?_
 rintro r V5 ⟨rfl,hq⟩
 have HG4:=hide (HG3.out.rd hq)
 have HK4:=hide (HK3.out.rdF HG3.out hq)
 clear hq HG3 HK3
 have HCY:=hide (ex_any HG4.out.st.ps hf)
 rw[HYE.out]at HCY
 go_wp2_with fail
 refine (HCY.out).mono ?_
 rintro r V6 ⟨vt,vp,rfl,hv,hq⟩
 have HSx:=hide (HG4.out.rd hq)
 have HKx:=hide (HK4.out.rdF HG4.out hq)
 obtain⟨xa6,xc6,xb6,xd6,rfl,rfl,_,_⟩:=hv.slc
 have HMx:=hide (ms_lastG HK4.out (fun g hg=>Nat.le_trans HG4.out.bsz hg) hv (.cells #[.slice (some ⟨xa6,0,none⟩) Y.1.t.length xc6,.slice (some ⟨xb6,0,none⟩) Y.1.t.length xd6] 45))
 have hbA:Below V6.heap.size V6 (V6.alloc (.cells #[.slice (some ⟨xa6,0,none⟩) Y.1.t.length xc6,.slice (some ⟨xb6,0,none⟩) Y.1.t.length xd6] 45)):=(Below.refl _ _).alloc (Nat.le_refl _) _
 have HBx:=hide (Cs.of_blk (Blk.new V6 45 #[.slice (some ⟨xa6,0,none⟩) Y.1.t.length xc6,.slice (some ⟨xb6,0,none⟩) Y.1.t.length xd6]))
 have HSy:=hide (HSx.out.below hbA)
 have HKy:=hide (HKx.out.bel hbA)
 clear hv hq hbA HG4 HK4 HSx HKx
 go_wp2_with (at_builtin;refine wp_appKO rfl (.tmp 28) (.tmp 31) rfl (NB+2) rfl HKy.out V6.heap.size 1 1 rfl rfl HMx.out HBx.out (by simp) (HSy.out.bsz) ?_)
 intro v' V6b hk4 hg4
 have HG5:=hide (HSy.out.appK HKy.out (Nat.le_refl _) hg4)
 have HK5:=hide hk4
 obtain⟨wa6,wc6,rfl⟩:=hk4.slc
 clear hk4 hg4 HSy HKy HMx HBx
 go_wp2_with fail
 refine wp_region_held_drew (S:=fun W=>Hid (Blk W (NB+1) 51 #[.int .i64 5,.int .i64 0,.slice none 0 0,.slice (some ⟨NB,0,none⟩) 1 1,.slice none 0 0,.int .i64 0])) (by kernel_rfl) (HG5.out.nb.below (Below.refl _ _).drew) (fun hHeld=>?_)
 refine wpAnyH_take (i:=0) (v:=?_) rfl (by kernel_rfl) (by kernel_rfl) (by kernel_rfl) (fun _ _ _ h=>h) (Or.inl ⟨by rfl,?_⟩) hHeld ?_
 rotate_left 1
 ·intro Wx hSW;simp only[List.getElem_toArray,List.getElem_cons_zero];have u0:=hSW.out.cell 0;have u1:=hSW.out.cell 1;have u2:=hSW.out.cell 2;have u3:=hSW.out.cell 3;have u4:=hSW.out.cell 4;have u5:=hSW.out.cell 5;simp only[List.getElem?_toArray,List.getElem?_cons_succ,List.getElem?_cons_zero]at u0 u1 u2 u3 u4 u5;go_simp;try with_reducible rfl
 try simp only[Act.put,List.getElem_toArray,List.getElem_cons_zero,List.setIfInBounds_toArray,List.set_cons_zero,List.set_cons_succ]
 refine wpAnyH_take (i:=1) (v:=?_) rfl (by kernel_rfl) (by kernel_rfl) (by kernel_rfl) (fun _ _ _ h=>h) (Or.inl ⟨by rfl,?_⟩) hHeld ?_
 rotate_left 1
 ·intro Wx hSW;simp only[List.getElem_toArray,List.getElem_cons_zero,List.getElem_cons_succ];go_simp;try with_reducible rfl
 try simp only[Act.put,List.getElem_toArray,List.getElem_cons_zero,List.getElem_cons_succ,List.setIfInBounds_toArray,List.set_cons_zero,List.set_cons_succ]
 refine wpAnyH_take (i:=2) (v:=?_) rfl (by kernel_rfl) (by kernel_rfl) (by kernel_rfl) (fun _ _ _ h=>h) (Or.inl ⟨by rfl,?_⟩) hHeld ?_
 rotate_left 1
 ·intro Wx hSW;simp only[List.getElem_toArray,List.getElem_cons_zero,List.getElem_cons_succ];go_simp;try with_reducible rfl
 try simp only[Act.put,List.getElem_toArray,List.getElem_cons_zero,List.getElem_cons_succ,List.setIfInBounds_toArray,List.set_cons_zero,List.set_cons_succ]
 refine wpAnyH_take (i:=3) (v:=?_) rfl (by kernel_rfl) (by kernel_rfl) (by kernel_rfl) (fun _ _ _ h=>h) (Or.inl ⟨by rfl,?_⟩) hHeld ?_
 rotate_left 1
 ·intro Wx hSW;simp only[List.getElem_toArray,List.getElem_cons_zero,List.getElem_cons_succ];go_simp;try with_reducible rfl
 try simp only[Act.put,List.getElem_toArray,List.getElem_cons_zero,List.getElem_cons_succ,List.setIfInBounds_toArray,List.set_cons_zero,List.set_cons_succ]
 have HG6:=hide (HG5.out.below (Below.refl _ _).drew)
 have HK6:=hide (HK5.out.bel (Below.refl _ _).drew)
 clear HG5 HK5
 refine wpAnyH_ready (rs:=[4]) (by kernel_rfl) (by simp) ?_
 refine AllReadyH.cons rfl (fun K hK=>?_) AllReadyH.nil
 go_simp
 go_at_call 38
 refine (HBL.out _ HG6.out.st.ps).mono ?_
 rintro r V7 ⟨vt,vp,rfl,hv,hq⟩
 have HG7:=hide (HG6.out.rd hq)
 have HK7:=hide (HK6.out.rdF HG6.out hq)
 obtain⟨xa7,xc7,xb7,xd7,rfl,rfl,_,_⟩:=hv.slc
 have HMx:=hide (ms_lastG HK6.out (fun g hg=>Nat.le_trans HG6.out.bsz hg) hv (.cells #[.slice (some ⟨xa7,0,none⟩) Q.1.t.length xc7,.slice (some ⟨xb7,0,none⟩) Q.1.t.length xd7] 45))
 clear hv hq HG6 HK6
 go_wp2_with fail
 refine hK.out _ _ (HG7.out.nb) (fun hHeld=>?_)
 clear hK K
 try simp only[Act.put,List.getElem_toArray,List.getElem_cons_zero,List.getElem_cons_succ,List.setIfInBounds_toArray,List.set_cons_zero,List.set_cons_succ]
 have hbA:Below V7.heap.size V7 (V7.alloc (.cells #[.slice (some ⟨xa7,0,none⟩) Q.1.t.length xc7,.slice (some ⟨xb7,0,none⟩) Q.1.t.length xd7] 45)):=(Below.refl _ _).alloc (Nat.le_refl _) _
 have HBx:=hide (Cs.of_blk (Blk.new V7 45 #[.slice (some ⟨xa7,0,none⟩) Q.1.t.length xc7,.slice (some ⟨xb7,0,none⟩) Q.1.t.length xd7]))
 have HG8:=hide (HG7.out.below hbA)
 have HK8:=hide (HK7.out.bel hbA)
 clear HG7 HK7 hbA
 refine wpAnyH_ready (rs:=[5]) (by kernel_rfl) (by simp) ?_
 refine AllReadyH.cons rfl (fun K hK=>?_) AllReadyH.nil
 go_simp
 refine hK.out _ _ (HG8.out.nb) (fun hHeld=>?_)
 clear hK K
 try simp only[Act.put,List.getElem_toArray,List.getElem_cons_zero,List.getElem_cons_succ,List.setIfInBounds_toArray,List.set_cons_zero,List.set_cons_succ]
 refine wpAnyH_ready (rs:=[6]) (by kernel_rfl) (by simp) ?_
 refine AllReadyH.cons rfl (fun K hK=>?_) AllReadyH.nil
 refine step_appKO rfl (.tmp 35) (.tmp 38) rfl (NB+2) rfl HK8.out V7.heap.size 1 1 rfl rfl HMx.out HBx.out (by simp) HG8.out.bsz ?_
 intro v' V9 hk4 hg4
 have hG9:=HG8.out.appK HK8.out (Nat.le_refl _) hg4
 obtain⟨va9,vc9,rfl⟩:=hk4.slc
 have hlo:=hG9.lo
 have HPR:=hide ((hk4.mono (G':=fun g=>w.heap.size<g) (fun g hg _=>by omega)).pr (fun g hg=>by omega))
 have HOK:=hide (hG9.ok.mono (G':=fun g=>w.heap.size<g) (fun g hg _=>by omega))
 have HG9:=hide hG9
 have HSr:=hide hG9.st
 have hbf:=HBF.out
 clear hk4 hg4 hG9 HG8 HK8 HMx HBx hlo
 refine hK.out _ _ (HG9.out.nb) (fun hHeld=>?_)
 clear hK K
 try simp only[Act.put,List.getElem_toArray,List.getElem_cons_zero,List.getElem_cons_succ,List.setIfInBounds_toArray,List.set_cons_zero,List.set_cons_succ]
 refine wpAnyH_ready (rs:=[7]) (by kernel_rfl) (by simp) ?_
 refine AllReadyH.cons rfl (fun K hK=>?_) AllReadyH.nil
 go_simp
 go_at_call 20
 refine (l2node_any (m:=⟨{ ndK 5 with names:=[I.1] },.slice none 0 0,.slice (some ⟨NB,0,none⟩) 1 1,.slice none 0 0⟩) (pl:=pl) (G:=fun g=>w.heap.size<g) HOK.out HPR.out (fun g hg=>Nat.lt_of_lt_of_le HSr.out.size hg) (by show 1+nsl [X.1,Y.1,Q.1]≤_;omega) (by simp)).mono ?_
 rintro r Vz ⟨vt,vp,rfl,hv,hbz⟩
 have HF:=hide (HSr.out.below hbz)
 have HGz:=hide (HG9.out.below hbz)
 obtain⟨ga,gc,gb,gd,rfl,rfl,_,_⟩:=hv.slc
 have HV:=hide hv
 have r0:=HF.out.res.cell 0
 have r1:=HF.out.res.cell 1
 have f0:=HF.out.res.frozen 0
 have f1:=HF.out.res.frozen 1
 simp only[List.getElem?_toArray,List.getElem?_cons_succ,List.getElem?_cons_zero]at r0 r1
 clear hv hbz
 go_wp2_with fail
 refine hK.out _ _ (HGz.out.nb) (fun hHeld=>?_)
 clear hK K
 try simp only[Act.put,List.getElem_toArray,List.getElem_cons_zero,List.getElem_cons_succ,List.setIfInBounds_toArray,List.set_cons_zero,List.set_cons_succ]
 refine wpAnyH_ready (rs:=[8]) (by kernel_rfl) (by simp) ?_
 refine AllReadyH.cons rfl (fun K hK=>?_) AllReadyH.nil
 go_simp
 refine hK.out _ _ (((HGz.out.nb.other 0 _ (by have:=HGz.out.lo;omega)).other 1 _ (by have:=HGz.out.lo;omega))) (fun hHeld=>?_)
 clear hK K
 try simp only[Act.put,List.getElem_toArray,List.getElem_cons_zero,List.getElem_cons_succ,List.setIfInBounds_toArray,List.set_cons_zero,List.set_cons_succ]
 refine wpAnyH_done (by kernel_rfl) ?_ _
 go_wp2_with fail
 refine bodyPost_ret (results_one rfl _ _ _ w.heap.size 45 _ (0,0) rfl ((HF.out.res.set 0 _).set 1 _) Tryz.underlying45 (by kernel_rfl)) rfl ?_
 exact HF.out.fin HV.out
end Go.Proofs.YtbiakdjpeblclaaGreatDoor

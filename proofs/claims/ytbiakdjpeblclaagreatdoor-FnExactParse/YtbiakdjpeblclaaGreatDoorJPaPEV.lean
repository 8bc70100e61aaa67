/-
  The walk of spec.l2readUnary: numbers, texts, names.
-/
import Derived.Test.YtbiakdjpeblclaaGreatDoorJPaO1
import Derived.Test.YtbiakdjpeblclaaGreatDoorJPaRL
import Derived.Test.YtbiakdjpeblclaaGreatDoorJPaQMY
import Derived.Test.YtbiakdjpeblclaaGreatDoorJPaT
import Derived.Maps.AppendAt
import Derived.Deep.RegionLaw
namespace Go.Proofs.YtbiakdjpeblclaaGreatDoor
open Go.RowKit
theorem vl_range (s:ByteArray):∀k p v,v≤99999→ -1≤nval s k p v∧nval s k p v≤99999
 |0,p,v,h=>by rw[nval];omega
 |k+1,p,v,h=>by
  rw[nval]
  repeat' split
  ·omega
  ·exact vl_range s k _ _ (by omega)
  ·omega
theorem own_bg {w:World}{B:Nat}{G:Nat→Prop}{v:Value}{l:List Nat}(h:w.ownsRow B 5 1 v l.length (cv l))(hl:Lo l)(hG:∀g,B≤g→G g):BG w G v (byt l):=by
 have h1:=RwG.of_own h hG
 rw[← byt_cells hl,← byt_size]at h1
 exact h1
theorem RSt.put {w V:World}{c:PsC}{e:PsE}{p p':Ps}(h:RSt w V c e p){k:Nat}{v:Value}(hb:#[.slice c.a0 e.s.size c.cap,.slice c.ta e.T.length c.tc,.int .i64 (p'.at_:Nat),.int .i64 p'.bad,.bool p'.long]=(#[.slice c.a0 e.s.size c.cap,.slice c.ta e.T.length c.tc,.int .i64 (p.at_:Nat),.int .i64 p.bad,.bool p.long]:Array Value).setIfInBounds k v)(h1:p'.at_≤e.T.length)(h2: -1≤p'.bad∧p'.bad≤5000):RSt w (V.setCell ⟨c.P,k,none⟩ v) c e p':=h.rd (h.ps.one hb h1 h2)
set_option maxHeartbeats 8000000 in
set_option maxRecDepth 1000000 in
theorem unary_int {w:World}{c:PsC}{e:PsE}{p:Ps}{f:Nat}(h:PsW w c e p)(n0:e.is p (⟨#[33]⟩:ByteArray)=false)(n1:e.is p (⟨#[45]⟩:ByteArray)=false)(n2:e.is p (⟨#[40]⟩:ByteArray)=false)(n3:e.is p (⟨#[116,114,117,101]⟩:ByteArray)=false)(n4:e.is p (⟨#[102,97,108,115,101]⟩:ByteArray)=false)(hk:e.kind p=3):
 Calls Tryz.prog 66 #[.pointer (some ⟨c.P,0,none⟩)] w (ExQ c e w (rU e (f+1) p)):=by
 have HS0:=hide (RSt.start h)
 have hpl:=PsE.place_le h
 have HPL:=hide (l2place_any (RSt.start h).ps)
 obtain⟨W0,hW0⟩:∃W,w.alloc (.cells #[.slice none 0 0,.slice none 0 0] 45)=W:=⟨_,rfl⟩
 rw[hW0]at HS0 HPL
 obtain⟨pl,hplE⟩:∃q,e.place p=q:=⟨_,rfl⟩
 rw[hplE]at hpl HPL
 have hns:=PsE.now_size h
 have hat:=h.at_
 have htl:=h.tl
 have hbd:=h.bad
 have hal:p.at_≤5000:=by omega
 have HU:Hid (rU e (f+1) p=(ptN { ndK 16 with n:=vl (e.now p) } pl [],p.on)):=by
  show _=_
  rw[rU,if_neg (by rw[n0];exact Bool.false_ne_true),if_neg (by rw[n1];exact Bool.false_ne_true),if_neg (by rw[n2];exact Bool.false_ne_true),if_neg (by rw[n3];exact Bool.false_ne_true),if_neg (by rw[n4];exact Bool.false_ne_true),if_pos hk,hplE]
 have hlt:=(kind_pos (e:=e) (p:=p) (by omega)).2
 clear h hplE
 go_enter Tryz.func66,Tryz.ntmps66
 go_wp2_with fail
 refine HPL.out.mono ?_
 rintro r V ⟨rfl,m0,rfl⟩
 have HS1:=hide (HS0.out.below (below_drewN (Below.refl _ _) m0))
 clear HPL hW0 HS0
 go_wp2_with fail
 refine (l2got_any (⟨#[33]⟩:ByteArray) HS1.out.ps).mono ?_
 rw[n0]
 rintro r V ⟨rfl,hq⟩
 have HSn0:=hide (HS1.out.rd hq)
 clear hq HS1
 rw[if_neg Bool.false_ne_true]at HSn0
 go_wp2_with fail
 refine (l2got_any (⟨#[45]⟩:ByteArray) HSn0.out.ps).mono ?_
 rw[n1]
 rintro r V ⟨rfl,hq⟩
 have HSn1:=hide (HSn0.out.rd hq)
 clear hq HSn0
 rw[if_neg Bool.false_ne_true]at HSn1
 go_wp2_with fail
 refine (l2got_any (⟨#[40]⟩:ByteArray) HSn1.out.ps).mono ?_
 rw[n2]
 rintro r V ⟨rfl,hq⟩
 have HSn2:=hide (HSn1.out.rd hq)
 clear hq HSn1
 rw[if_neg Bool.false_ne_true]at HSn2
 go_wp2_with fail
 refine (l2got_any (⟨#[116,114,117,101]⟩:ByteArray) HSn2.out.ps).mono ?_
 rw[n3]
 rintro r V ⟨rfl,hq⟩
 have HSn3:=hide (HSn2.out.rd hq)
 clear hq HSn2
 rw[if_neg Bool.false_ne_true]at HSn3
 go_wp2_with fail
 refine (l2got_any (⟨#[102,97,108,115,101]⟩:ByteArray) HSn3.out.ps).mono ?_
 rw[n4]
 rintro r V ⟨rfl,hq⟩
 have HSn4:=hide (HSn3.out.rd hq)
 clear hq HSn3
 rw[if_neg Bool.false_ne_true]at HSn4
 go_wp2_with fail
 refine (l2kind_any HSn4.out.ps).mono ?_
 rintro r V ⟨rfl,m1,rfl⟩
 have HSk:=hide (HSn4.out.below (below_drewN (Below.refl _ _) m1))
 clear HSn4
 go_wp2_with fail
 refine (l2now_any HSk.out.ps).mono ?_
 rintro r V1 ⟨rfl,hb1⟩
 obtain⟨gc,V2,hcv,hb2,hbg,hbc,hsz⟩:=conv_bg V1 (e.now p)
 have HSc:=hide ((HSk.out.below hb1).below hb2)
 have hV1:=(HSk.out.below hb1).size
 have HCC:=hide hbc
 obtain⟨R,hR⟩:∃R,e.now p=R:=⟨_,rfl⟩
 simp only[hR]at hcv HCC hns HU ⊢
 have g2:=HSc.out.ps.cells.2.2.1
 have g4:=HSc.out.ps.cells.2.2.2.2
 have fz2:=HSc.out.ps.fz 2
 clear hb1 hb2 hbg hbc hsz HSk hR
 obtain⟨V3,hV3⟩:∃W,V2.setCell ⟨c.P,2,none⟩ (.int .i64 ((p.at_:Nat)+1:Int))=W:=⟨_,rfl⟩
 have HS3:Hid (RSt w V3 c e p.on):=by rw[← hV3];exact HSc.out.put (p':=p.on) rfl (by show p.at_+1≤_;omega) hbd
 have hgw:Gw (· = c.P) V2 V3:=by rw[← hV3];exact Gw.set _ _ _ _
 have HVA:=hide (value_any V1.heap.size 0 gc 0 R.size R V3 (by omega) (by omega) (fun j hj=>by
  rw[Nat.zero_add]
  exact hgw.cell (HCC.out j hj) (by show ¬V1.heap.size=c.P;have:=HSc.out.lt;omega)))
 have hvr:=vl_range R R.size 0 0 (by omega)
 have HVL:Hid (vl R=nval R R.size 0 0):=rfl
 obtain⟨N,hN⟩:∃N,nval R R.size 0 0=N:=⟨_,rfl⟩
 rw[hN]at HVA hvr HVL
 rw[HVL.out]at HU
 clear hgw HCC hN HSc
 go_wp2_with fail
 refine HVA.out.mono ?_
 rintro r W ⟨rfl,rfl⟩
 go_wp2_with fail
 refine (l2node_any (m:=⟨{ ndK 16 with n:=N },.slice none 0 0,.slice none 0 0,.slice none 0 0⟩) (pl:=pl) (G:=fun g=>w.heap.size<g) (nv_plain _ _ 16 N) (pr_nil _ _) (fun g hg=>Nat.lt_of_lt_of_le HS3.out.size hg) (by rw[nsl_nil];omega) (by simp)).mono ?_
 rintro r V' ⟨vt,vp,rfl,hv,hb⟩
 have HF:=hide (HS3.out.below hb)
 obtain⟨ga,gc,gb,gd,rfl,rfl,_,_⟩:=hv.slc
 have HV:=hide hv
 have r0:=HF.out.res.cell 0
 have r1:=HF.out.res.cell 1
 have f0:=HF.out.res.frozen 0
 have f1:=HF.out.res.frozen 1
 simp only[List.getElem?_toArray,List.getElem?_cons_succ,List.getElem?_cons_zero]at r0 r1
 clear hv hb
 go_wp2_with fail
 refine bodyPost_ret (results_one rfl _ _ _ w.heap.size 45 _ (0,0) rfl ((HF.out.res.set 0 _).set 1 _) Tryz.underlying45 (by kernel_rfl)) rfl ?_
 rw[HU.out]
 exact HF.out.fin HV.out
set_option maxHeartbeats 8000000 in
set_option maxRecDepth 1000000 in
theorem unary_text {w:World}{c:PsC}{e:PsE}{p:Ps}{f:Nat}(h:PsW w c e p)(n0:e.is p (⟨#[33]⟩:ByteArray)=false)(n1:e.is p (⟨#[45]⟩:ByteArray)=false)(n2:e.is p (⟨#[40]⟩:ByteArray)=false)(n3:e.is p (⟨#[116,114,117,101]⟩:ByteArray)=false)(n4:e.is p (⟨#[102,97,108,115,101]⟩:ByteArray)=false)(k3:e.kind p≠3)(hk:e.kind p=4):
 Calls Tryz.prog 66 #[.pointer (some ⟨c.P,0,none⟩)] w (ExQ c e w (rU e (f+1) p)):=by
 have HS0:=hide (RSt.start h)
 have hpl:=PsE.place_le h
 have HPL:=hide (l2place_any (RSt.start h).ps)
 obtain⟨W0,hW0⟩:∃W,w.alloc (.cells #[.slice none 0 0,.slice none 0 0] 45)=W:=⟨_,rfl⟩
 rw[hW0]at HS0 HPL
 obtain⟨pl,hplE⟩:∃q,e.place p=q:=⟨_,rfl⟩
 rw[hplE]at hpl HPL
 have hns:=PsE.now_size h
 have hat:=h.at_
 have htl:=h.tl
 have hbd:=h.bad
 have hal:p.at_≤5000:=by omega
 have HU:Hid (rU e (f+1) p=(ptN { ndK 17 with text:=byt (unq (e.now p)).1 } pl [],{ p.on with long:=p.long||decide (60<(unq (e.now p)).1.length) })):=by
  show _=_
  rw[rU,if_neg (by rw[n0];exact Bool.false_ne_true),if_neg (by rw[n1];exact Bool.false_ne_true),if_neg (by rw[n2];exact Bool.false_ne_true),if_neg (by rw[n3];exact Bool.false_ne_true),if_neg (by rw[n4];exact Bool.false_ne_true),if_neg k3,if_pos hk,hplE]
 have hlt:=(kind_pos (e:=e) (p:=p) (by omega)).2
 clear h hplE
 go_enter Tryz.func66,Tryz.ntmps66
 go_wp2_with fail
 refine HPL.out.mono ?_
 rintro r V ⟨rfl,m0,rfl⟩
 have HS1:=hide (HS0.out.below (below_drewN (Below.refl _ _) m0))
 clear HPL hW0 HS0
 go_wp2_with fail
 refine (l2got_any (⟨#[33]⟩:ByteArray) HS1.out.ps).mono ?_
 rw[n0]
 rintro r V ⟨rfl,hq⟩
 have HSn0:=hide (HS1.out.rd hq)
 clear hq HS1
 rw[if_neg Bool.false_ne_true]at HSn0
 go_wp2_with fail
 refine (l2got_any (⟨#[45]⟩:ByteArray) HSn0.out.ps).mono ?_
 rw[n1]
 rintro r V ⟨rfl,hq⟩
 have HSn1:=hide (HSn0.out.rd hq)
 clear hq HSn0
 rw[if_neg Bool.false_ne_true]at HSn1
 go_wp2_with fail
 refine (l2got_any (⟨#[40]⟩:ByteArray) HSn1.out.ps).mono ?_
 rw[n2]
 rintro r V ⟨rfl,hq⟩
 have HSn2:=hide (HSn1.out.rd hq)
 clear hq HSn1
 rw[if_neg Bool.false_ne_true]at HSn2
 go_wp2_with fail
 refine (l2got_any (⟨#[116,114,117,101]⟩:ByteArray) HSn2.out.ps).mono ?_
 rw[n3]
 rintro r V ⟨rfl,hq⟩
 have HSn3:=hide (HSn2.out.rd hq)
 clear hq HSn2
 rw[if_neg Bool.false_ne_true]at HSn3
 go_wp2_with fail
 refine (l2got_any (⟨#[102,97,108,115,101]⟩:ByteArray) HSn3.out.ps).mono ?_
 rw[n4]
 rintro r V ⟨rfl,hq⟩
 have HSn4:=hide (HSn3.out.rd hq)
 clear hq HSn3
 rw[if_neg Bool.false_ne_true]at HSn4
 go_wp2_with fail
 refine (l2kind_any HSn4.out.ps).mono ?_
 rintro r V ⟨rfl,m1,rfl⟩
 have HSk:=hide (HSn4.out.below (below_drewN (Below.refl _ _) m1))
 clear HSn4
 go_wp2_with fail
 refine (l2now_any HSk.out.ps).mono ?_
 rintro r V1 ⟨rfl,hb1⟩
 obtain⟨gc,V2,hcv,hb2,hbg,hbc,hsz⟩:=conv_bg V1 (e.now p)
 have HSc:=hide ((HSk.out.below hb1).below hb2)
 have hV1:=(HSk.out.below hb1).size
 have HCC:=hide hbc
 obtain⟨R,hR⟩:∃R,e.now p=R:=⟨_,rfl⟩
 simp only[hR]at hcv HCC hns HU ⊢
 have g2:=HSc.out.ps.cells.2.2.1
 have g4:=HSc.out.ps.cells.2.2.2.2
 have fz2:=HSc.out.ps.fz 2
 clear hb1 hb2 hbg hbc hsz HSk hR
 obtain⟨V3,hV3⟩:∃W,V2.setCell ⟨c.P,2,none⟩ (.int .i64 ((p.at_:Nat)+1:Int))=W:=⟨_,rfl⟩
 have HS3:Hid (RSt w V3 c e p.on):=by rw[← hV3];exact HSc.out.put (p':=p.on) rfl (by show p.at_+1≤_;omega) hbd
 have hgw:Gw (· = c.P) V2 V3:=by rw[← hV3];exact Gw.set _ _ _ _
 have HVA:=hide (specUnq_any V1.heap.size 0 gc R V3 (by omega) (fun j hj=>by
  rw[Nat.zero_add]
  exact hgw.cell (HCC.out j hj) (by show ¬V1.heap.size=c.P;have:=HSc.out.lt;omega)))
 have hul:=unq_le R
 have HLO:=hide (unq_lo R)
 obtain⟨U,uc,hU⟩:∃U uc,unq R=(U,uc):=⟨_,_,rfl⟩
 simp only[hU]at HVA hul HLO HU
 have k43:((4:Int)==3)=false:=rfl
 clear hgw HCC hU HSc k3
 go_wp2_with fail
 refine HVA.out.mono ?_
 rintro r V4 ⟨vu,rfl,ho,hb4⟩
 have HS4:=hide (HS3.out.below hb4)
 have HBU:=hide (own_bg (G:=fun g=>w.heap.size<g) ho HLO.out (fun g hg=>Nat.lt_of_lt_of_le HS3.out.size hg))
 obtain⟨ua,uk,rfl⟩:=own_sl ho
 have x4:=HS4.out.ps.cells.2.2.2.2
 have xf4:=HS4.out.ps.fz 4
 clear HVA ho hb4 HS3
 have hdd:decide ((60:Int)<(U.length:Int))=decide (60<U.length):=by
  by_cases q:60<U.length
  ·rw[decide_eq_true q,decide_eq_true (by omega)]
  ·rw[decide_eq_false q,decide_eq_false (by omega)]
 obtain⟨D,hD⟩:∃D,decide (60<U.length)=D:=⟨_,rfl⟩
 rw[hD]at hdd HU
 obtain⟨V5,hV5⟩:∃W,V4.setCell ⟨c.P,4,none⟩ (.bool (p.long||D))=W:=⟨_,rfl⟩
 have HS5:Hid (RSt w V5 c e { p.on with long:=p.long||D }):=by rw[← hV5];exact HS4.out.put (p':={ p.on with long:=p.long||D }) rfl (by show p.at_+1≤_;omega) hbd
 have HB5:Hid (BG V5 (fun g=>w.heap.size<g) (.slice ua U.length uk) (byt U)):=by rw[← hV5];exact HBU.out.gw (Gw.set _ _ _ _) (fun k hk=>by rw[hk];have:=HS4.out.lt;omega)
 have HT5:=hide (nv_text HB5.out (by rw[byt_size];omega))
 rw[show p.on.long=p.long from rfl]at x4
 obtain⟨L,hL⟩:∃L,p.long=L:=⟨_,rfl⟩
 rw[hL]at hV5 HU HS5 x4 g4
 clear hD HBU HS4 HB5 hL
 cases L<;>simp only[Bool.true_or,Bool.false_or]at hV5 HS5 HU
 all_goals
  go_wp2_with fail
  refine (l2node_any (m:=⟨{ ndK 17 with text:=byt U },.slice ua U.length uk,.slice none 0 0,.slice none 0 0⟩) (pl:=pl) (G:=fun g=>w.heap.size<g) (HT5.out) (pr_nil _ _) (fun g hg=>Nat.lt_of_lt_of_le HS5.out.size hg) (by rw[nsl_nil];omega) (by simp)).mono ?_
  rintro r V' ⟨vt,vp,rfl,hv,hb⟩
  have HF:=hide (HS5.out.below hb)
  obtain⟨ga,gc,gb,gd,rfl,rfl,_,_⟩:=hv.slc
  have HV:=hide hv
  have r0:=HF.out.res.cell 0
  have r1:=HF.out.res.cell 1
  have f0:=HF.out.res.frozen 0
  have f1:=HF.out.res.frozen 1
  simp only[List.getElem?_toArray,List.getElem?_cons_succ,List.getElem?_cons_zero]at r0 r1
  clear hv hb
  go_wp2_with fail
  refine bodyPost_ret (results_one rfl _ _ _ w.heap.size 45 _ (0,0) rfl ((HF.out.res.set 0 _).set 1 _) Tryz.underlying45 (by kernel_rfl)) rfl ?_
  rw[HU.out]
  exact HF.out.fin HV.out
set_option maxHeartbeats 8000000 in
set_option maxRecDepth 1000000 in
theorem unary_name {w:World}{c:PsC}{e:PsE}{p:Ps}{f:Nat}(h:PsW w c e p)(n0:e.is p (⟨#[33]⟩:ByteArray)=false)(n1:e.is p (⟨#[45]⟩:ByteArray)=false)(n2:e.is p (⟨#[40]⟩:ByteArray)=false)(n3:e.is p (⟨#[116,114,117,101]⟩:ByteArray)=false)(n4:e.is p (⟨#[102,97,108,115,101]⟩:ByteArray)=false)(k3:e.kind p≠3)(k4:e.kind p≠4):
 Calls Tryz.prog 66 #[.pointer (some ⟨c.P,0,none⟩)] w (ExQ c e w (rU e (f+1) p)):=by
 have HS0:=hide (RSt.start h)
 have hpl:=PsE.place_le h
 have HPL:=hide (l2place_any (RSt.start h).ps)
 obtain⟨W0,hW0⟩:∃W,w.alloc (.cells #[.slice none 0 0,.slice none 0 0] 45)=W:=⟨_,rfl⟩
 rw[hW0]at HS0 HPL
 obtain⟨pl,hplE⟩:∃q,e.place p=q:=⟨_,rfl⟩
 rw[hplE]at hpl HPL
 have hns:=PsE.now_size h
 have hat:=h.at_
 have htl:=h.tl
 have hbd:=h.bad
 have hal:p.at_≤5000:=by omega
 have HU:Hid (rU e (f+1) p=(ptN { ndK 19 with names:=[(e.ident p).1] } pl [],(e.ident p).2)):=by
  show _=_
  rw[rU,if_neg (by rw[n0];exact Bool.false_ne_true),if_neg (by rw[n1];exact Bool.false_ne_true),if_neg (by rw[n2];exact Bool.false_ne_true),if_neg (by rw[n3];exact Bool.false_ne_true),if_neg (by rw[n4];exact Bool.false_ne_true),if_neg k3,if_neg k4,hplE]
 have d3:(((e.kind p:Nat):Int)==3)=false:=by rw[beq_eq_false_iff_ne];omega
 have d4:(((e.kind p:Nat):Int)==4)=false:=by rw[beq_eq_false_iff_ne];omega
 clear h hplE
 go_enter Tryz.func66,Tryz.ntmps66
 go_wp2_with fail
 refine HPL.out.mono ?_
 rintro r V ⟨rfl,m0,rfl⟩
 have HS1:=hide (HS0.out.below (below_drewN (Below.refl _ _) m0))
 clear HPL hW0 HS0
 go_wp2_with fail
 refine (l2got_any (⟨#[33]⟩:ByteArray) HS1.out.ps).mono ?_
 rw[n0]
 rintro r V ⟨rfl,hq⟩
 have HSn0:=hide (HS1.out.rd hq)
 clear hq HS1
 rw[if_neg Bool.false_ne_true]at HSn0
 go_wp2_with fail
 refine (l2got_any (⟨#[45]⟩:ByteArray) HSn0.out.ps).mono ?_
 rw[n1]
 rintro r V ⟨rfl,hq⟩
 have HSn1:=hide (HSn0.out.rd hq)
 clear hq HSn0
 rw[if_neg Bool.false_ne_true]at HSn1
 go_wp2_with fail
 refine (l2got_any (⟨#[40]⟩:ByteArray) HSn1.out.ps).mono ?_
 rw[n2]
 rintro r V ⟨rfl,hq⟩
 have HSn2:=hide (HSn1.out.rd hq)
 clear hq HSn1
 rw[if_neg Bool.false_ne_true]at HSn2
 go_wp2_with fail
 refine (l2got_any (⟨#[116,114,117,101]⟩:ByteArray) HSn2.out.ps).mono ?_
 rw[n3]
 rintro r V ⟨rfl,hq⟩
 have HSn3:=hide (HSn2.out.rd hq)
 clear hq HSn2
 rw[if_neg Bool.false_ne_true]at HSn3
 go_wp2_with fail
 refine (l2got_any (⟨#[102,97,108,115,101]⟩:ByteArray) HSn3.out.ps).mono ?_
 rw[n4]
 rintro r V ⟨rfl,hq⟩
 have HSn4:=hide (HSn3.out.rd hq)
 clear hq HSn3
 rw[if_neg Bool.false_ne_true]at HSn4
 go_wp2_with fail
 refine (l2kind_any HSn4.out.ps).mono ?_
 rintro r V ⟨rfl,m1,rfl⟩
 have HSk:=hide (HSn4.out.below (below_drewN (Below.refl _ _) m1))
 clear HSn4
 go_wp2_with fail
 refine (l2now_any HSk.out.ps).mono ?_
 rintro r V1 ⟨rfl,hb1⟩
 obtain⟨gc,V2,hcv,hb2,hbg,hbc,hsz⟩:=conv_bg V1 (e.now p)
 have HSc:=hide ((HSk.out.below hb1).below hb2)
 have hV1:=(HSk.out.below hb1).size
 have HCC:=hide hbc
 obtain⟨R,hR⟩:∃R,e.now p=R:=⟨_,rfl⟩
 simp only[hR]at hcv HCC ⊢
 have g2:=HSc.out.ps.cells.2.2.1
 have g4:=HSc.out.ps.cells.2.2.2.2
 have fz2:=HSc.out.ps.fz 2
 clear hb1 hb2 hbg hbc hsz HSk hR
 go_wp2_with fail
 refine (l2ident_any HSc.out.ps).mono ?_
 rintro r V4 ⟨⟨v,rfl,hbv,hvs⟩,hq⟩
 have HS4:=hide (HSc.out.rd hq)
 have HBV:=hide (hbv.mono (G':=fun g=>w.heap.size<g) (fun g hg _=>Nat.lt_of_lt_of_le HSc.out.size hg))
 obtain⟨va,vc,rfl⟩:=HBV.out.slc
 obtain⟨I,hI⟩:∃I,e.ident p=I:=⟨_,rfl⟩
 rw[hI]at HU HBV hvs HS4
 simp only[hI]
 obtain⟨V5,hV5⟩:∃W,V4.alloc (.cells #[.slice va I.1.size vc] 22)=W:=⟨_,rfl⟩
 have hbA:Below V4.heap.size V4 V5:=by rw[← hV5];exact (Below.refl _ _).alloc (Nat.le_refl _) _
 have hBK:Blk V5 V4.heap.size 22 #[.slice va I.1.size vc]:=by rw[← hV5];exact Blk.new _ _ _
 have HS5:=hide (HS4.out.below hbA)
 have HN5:=hide (nv_name (k:=19) hBK HS4.out.size (HBV.out.gw (P:=fun _=>False) (Gw.of_below hbA) (fun _ q=>q.elim)) (by omega))
 clear hbv hq hbA hBK HBV HS4 HSc HCC hI
 go_wp2_with fail
 refine (l2node_any (m:=⟨{ ndK 19 with names:=[I.1] },.slice none 0 0,.slice (some ⟨V4.heap.size,0,none⟩) 1 1,.slice none 0 0⟩) (pl:=pl) (G:=fun g=>w.heap.size<g) (HN5.out) (pr_nil _ _) (fun g hg=>Nat.lt_of_lt_of_le HS5.out.size hg) (by rw[nsl_nil];omega) (by simp)).mono ?_
 rintro r V' ⟨vt,vp,rfl,hv,hb⟩
 have HF:=hide (HS5.out.below hb)
 obtain⟨ga,gc,gb,gd,rfl,rfl,_,_⟩:=hv.slc
 have HV:=hide hv
 have r0:=HF.out.res.cell 0
 have r1:=HF.out.res.cell 1
 have f0:=HF.out.res.frozen 0
 have f1:=HF.out.res.frozen 1
 simp only[List.getElem?_toArray,List.getElem?_cons_succ,List.getElem?_cons_zero]at r0 r1
 clear hv hb
 go_wp2_with fail
 refine bodyPost_ret (results_one rfl _ _ _ w.heap.size 45 _ (0,0) rfl ((HF.out.res.set 0 _).set 1 _) Tryz.underlying45 (by kernel_rfl)) rfl ?_
 rw[HU.out]
 exact HF.out.fin HV.out
set_option maxHeartbeats 1000000 in
set_option maxRecDepth 1000000 in
theorem implUnq_any (b off cap:Nat)(s:ByteArray)(w:World)(m:Int)(te:TypeId)(pe:Value)(hs:s.size≤1048576)
 (hT:Lib.Utf8Tabs 3 4 w) (hM:w.cell? ⟨5,0,none⟩=some (.int .i64 m)) (hE:w.cell? ⟨7,0,none⟩=some (.iface te pe)) (hc:∀j,j<s.size→w.cell? ⟨b,off+j,none⟩=some (bts s j)):
 Calls Tryz.prog 183 #[.slice (some ⟨b,off,none⟩) s.size cap] w fun e w'=>∃v',e = .returned (.tuple #[v',.int .i64 (unq s).2])∧w'.ownsRow w.heap.size 5 1 v' (unq s).1.length (cv (unq s).1)∧Below w.heap.size w w':=by
 have H15:=implCheck_any b off cap s w hs hT hc
 have HC:=hide hc
 obtain⟨A,D,hAD⟩:∃A D,chk s=(A,D):=⟨_,_,rfl⟩
 rw[pairVal_of hAD]at H15
 have H15':=hide H15
 have HT:=hide hT
 have HM:=hide hM
 have HE:=hide hE
 clear hc hT hM hE H15
 by_cases hg:A=0
 ·have hgb:((A:Int) != 0)=false:=by rw[bne_eq_false_iff_eq];omega
  have HG:Hid ((chk s).1=0):=by show _=_;rw[hAD];exact hg
  clear hg hAD
  go_enter Tryz.func183,Tryz.ntmps183
  go_wp2_with fail
  refine H15'.out.mono ?_
  rintro e w1 ⟨rfl,hb1⟩
  have H17:=rl_any s w1 m te pe hs (chkAt_zero s _ _ HG.out) (Utf8Tabs_below HT.out hb1) (by rw[hb1.cell (p:=⟨5,0,none⟩) (World.block_lt_of_cell? _ _ HM.out)];exact HM.out) (by rw[hb1.cell (p:=⟨7,0,none⟩) (World.block_lt_of_cell? _ _ HE.out)];exact HE.out)
  have hcv:=toStr_run s w1 b off cap (fun j hj=>by rw[hb1.cell (p:=⟨b,off+j,none⟩) (World.block_lt_of_cell? _ _ (HC.out j hj))];exact HC.out j hj)
  obtain⟨l,n,hr⟩:∃l n,litRes s 0=(l,n):=⟨_,_,rfl⟩
  rw[hr]at H17
  have HU:Hid (unq s=if n≠0∧n=s.size then (l,0) else ([],2)):=by
   show _=_
   unfold unq;rw[hr]
   by_cases h:n≠0∧n=s.size
   ·rw[if_pos h,if_pos ⟨HG.out,h⟩]
   ·rw[if_neg h,if_neg (fun g=>h g.2)]
  have H17':=hide H17
  have HB1:=hide hb1
  have hsz:=hb1.size
  clear hb1 H17 hr
  go_wp2_with fail
  clear hcv
  refine H17'.out.mono ?_
  rintro e w2 ⟨v',rfl,ho,hb2⟩
  have HB2:Hid (Below w.heap.size w w2):=HB1.out.trans (hb2.mono hsz)
  have HOB:Hid (w2.ownsRow w.heap.size 5 1 v' l.length (cv l)):=by
   refine⟨ho.1,?_⟩
   rcases ho.2 with h|⟨g,c,cur,e1,e2,e3⟩
   ·exact .inl h
   ·exact .inr ⟨g,c,cur,e1,Nat.le_trans hsz e2,e3⟩
  clear ho hb2
  simp only
  by_cases h0:n=0
  ·have t1:((n:Int)==0)=true:=by rw[beq_iff_eq];omega
   have HR:Hid (unq s=([],2)):=by show _=_;rw[HU.out,if_neg (fun g=>g.1 h0)]
   clear h0
   go_wp2
   go_ret2
   exact⟨_,by rw[HR.out];rfl,by rw[HR.out];exact World.ownsRow_nil _ _ _ _,HB2.out⟩
  ·have t1:((n:Int)==0)=false:=by rw[beq_eq_false_iff_ne];omega
   by_cases hn:n=s.size
   ·have t2:((n:Int) != (s.size:Int))=false:=by rw[bne_eq_false_iff_eq];omega
    have HR:Hid (unq s=(l,0)):=by show _=_;rw[HU.out,if_pos ⟨h0,hn⟩]
    clear h0 hn
    go_wp2
    go_ret2
    exact⟨_,by rw[HR.out];rfl,by rw[HR.out];exact HOB.out,HB2.out⟩
   ·have t2:((n:Int) != (s.size:Int))=true:=by rw[bne_iff_ne];omega
    have HR:Hid (unq s=([],2)):=by show _=_;rw[HU.out,if_neg (fun g=>hn g.2)]
    clear h0 hn
    go_wp2
    go_ret2
    exact⟨_,by rw[HR.out];rfl,by rw[HR.out];exact World.ownsRow_nil _ _ _ _,HB2.out⟩
 ·have hgb:((A:Int) != 0)=true:=by rw[bne_iff_ne];omega
  have HR:Hid (unq s=([],2)):=by show _=_;unfold unq;rw[if_neg (fun g=>hg (by have:=g.1;rw[hAD]at this;exact this))]
  clear hg hAD
  go_enter Tryz.func183,Tryz.ntmps183
  go_wp2_with (go_at_call 47;refine H15'.out.mono ?_;rintro e w1 ⟨rfl,hb1⟩)
  go_ret2
  exact⟨_,by rw[HR.out];rfl,by rw[HR.out];exact World.ownsRow_nil _ _ _ _,hb1⟩
def rLf (e:PsE)(pl:Nat)(p:Ps):Pt × Ps:=
 if e.kind p=3 then (ptN { ndK 16 with n:=vl (e.now p) } pl [],p.on)
 else if e.kind p=4 then (ptN { ndK 17 with text:=byt (unq (e.now p)).1 } pl [],{ p.on with long:=p.long||decide (60<(unq (e.now p)).1.length) })
 else (ptN { ndK 19 with names:=[(e.ident p).1] } pl [],(e.ident p).2)
theorem txt_le {w:World}{c:PsC}{e:PsE}{n:Nat}(h:QsW w c e n)(k:Nat):(e.txt k).size≤5000:=by
 have:=h.szl
 unfold PsE.txt
 split
 ·rw[ByteArray.size_extract];omega
 ·show 0≤_;omega
theorem own_bfq {w:World}{B:Nat}{G:Nat→Prop}{v:Value}{l:List Nat}(h:w.ownsRow B 5 1 v l.length (cv l))(hl:Lo l)(hG:∀g,B≤g→G g):BGf w G v (byt l):=by
 have h1:=RGf.of_own (G:=G) h (fun g q=>hG g (World.ownsRow.lt h g q).1)
 rw[← byt_cells hl,← byt_size]at h1
 exact h1
set_option maxHeartbeats 2000000 in
set_option maxRecDepth 1000000 in
theorem leaf_name {w:World}{c:PsC}{e:PsE}{p:Ps}(pl:Nat)(h:QsW w c e p.at_)(hp:p.bad<0)(hk:e.kind p=1):
 Calls Tryz.prog 181 #[.pointer (some ⟨c.P,0,none⟩),.int .i64 (pl:Nat)] w (RQ c e w (e.ident p).2 (KP w (ptN { ndK 19 with names:=[(e.ident p).1] } pl []))):=by
 have hkn:=knd_kind (e:=e) hp
 have HTX:=hide (qtext_any h)
 have HK1:=hide (fun W (hW:Below w.heap.size w W)=>qnext_any 1 (by decide) (h.below hW))
 have HNM:=hide (fun W (hW:Below w.heap.size w W)=>qname (p:=p) (h.below hW) hp)
 have hPl:=h.blk.lt
 simp only[hkn,hk,decide_true]at HK1
 obtain⟨X,hX⟩:∃X,e.txt p.at_=X:=⟨_,rfl⟩
 rw[hX]at HTX
 obtain⟨I,hI⟩:∃I,e.ident p=I:=⟨_,rfl⟩
 simp only[hI]at HNM
 rw[hI]
 have hIb:I.2.bad<0:=by rw[← hI];unfold PsE.ident;rw[if_pos hk];exact hp
 clear h hkn hX hI hk
 go_enter Tryz.func181,Tryz.ntmps181
 go_wp2_with fail
 refine HTX.out.mono ?_
 rintro r w1 ⟨rfl,hb1⟩
 have HB1:=hide hb1
 clear hb1 HTX
 go_wp2_with fail
 refine (HK1.out w1 HB1.out).mono ?_
 rintro r w2 ⟨rfl,hb2⟩
 have HB2:=hide (HB1.out.trans (hb2.mono HB1.out.size))
 clear hb2 HK1 HB1
 go_wp2_with fail
 refine (HNM.out w2 HB2.out).mono ?_
 rintro r w3 ⟨hg3,⟨hb3,hq3,v,rfl,hv,hvs⟩|⟨hb3,rfl⟩⟩
 ·obtain⟨va,vc,rfl⟩:=hv.slc
  have hg3w:=(Gw.of_below (P:=(· = c.P)) HB2.out).tr hg3
  have hA:Below w3.heap.size w3 (w3.alloc (.cells #[.slice va I.1.size vc] 22)):=(Below.refl _ _).alloc (Nat.le_refl _) _
  have hNv:=od_name (k:=19) (G:=fun g=>w.heap.size≤g) (Blk.new w3 22 #[.slice va I.1.size vc]) hg3w.size (BGf.gw (P:=fun _=>False) (hv.mono (fun g hg _=>Nat.le_trans HB2.out.size hg)) (Gw.of_below hA) (fun _ q=>q.elim)) (by omega)
  have HMK:=hide (qmake_any pl (show (0:Int)≤19∧(19:Int)≤22 by decide) (Kids.leaf hNv) rfl (RwG.nil _ _ 0 []))
  have HQ:=hide (hq3.below hA)
  have HG:=hide (hg3w.blw hA)
  clear hv hq3 hg3 hg3w hA hNv HNM
  go_wp2_with fail
  refine HMK.out.mono ?_
  rintro r w4 ⟨⟨t,a,rfl,hpm⟩,hb4⟩
  have HPM:=hide hpm
  have HB4:=hide hb4
  clear hpm hb4
  go_wp2
  go_ret
  exact RQ.ok hIb (HG.out.blw HB4.out) (HQ.out.below HB4.out) ⟨⟨_,_,rfl⟩,HPM.out⟩
 ·omega
set_option maxHeartbeats 2000000 in
set_option maxRecDepth 1000000 in
theorem leaf_num {w:World}{c:PsC}{e:PsE}{p:Ps}(pl:Nat)(hE:EOk e)(h:QsW w c e p.at_)(hp:p.bad<0)(hk:e.kind p=3):
 Calls Tryz.prog 181 #[.pointer (some ⟨c.P,0,none⟩),.int .i64 (pl:Nat)] w (RQ c e w p.on (KP w (ptN { ndK 16 with n:=vl (e.now p) } pl []))):=by
 have hkn:=knd_kind (e:=e) hp
 have hn:=(kind_pos (e:=e) (p:=p) (by omega)).2
 have HTX:=hide (qtext_any h)
 have HK1:=hide (fun W (hW:Below w.heap.size w W)=>qnext_any 1 (by decide) (h.below hW))
 have HK3:=hide (fun W (hW:Below w.heap.size w W)=>qnext_any 3 (by decide) (h.below hW))
 have hPl:=h.blk.lt
 have htl:=h.tl
 simp only[hkn,hk,decide_true,show decide ((3:Nat)=1)=false from rfl]at HK1 HK3
 have hnow:=now_txt (e:=e) (p:=p) (by omega)
 obtain⟨u,hu1,hu2,hu3⟩:=hE.num hn (by
  have:e.kind p=(e.tk p).1:=by unfold PsE.kind;rw[if_neg (by omega)]
  unfold PsE.tk at this;omega)
 have hxs:=txt_le h p.at_
 rw[hnow,hu2]
 have HAT:=hide (fun W=>Tryz.strconv_Atoi_ok (e.txt p.at_) (by omega) u hu1 W)
 obtain⟨X,hX⟩:∃X,e.txt p.at_=X:=⟨_,rfl⟩
 rw[hX]at HTX HAT
 have HH:=hide h
 have HN:=hide hn
 clear h hkn hX hk hnow hu1 hu2 hxs hn hE
 have hn5:(p.at_:Int)≤5000:=by have:=HN.out;omega
 go_enter Tryz.func181,Tryz.ntmps181
 go_wp2_with fail
 refine HTX.out.mono ?_
 rintro r w1 ⟨rfl,hb1⟩
 have HB1:=hide hb1
 clear hb1 HTX
 go_wp2_with fail
 refine (HK1.out w1 HB1.out).mono ?_
 rintro r w2 ⟨rfl,hb2⟩
 have HB2:=hide (HB1.out.trans (hb2.mono HB1.out.size))
 clear hb2 HK1 HB1
 go_wp2_with fail
 refine (HK3.out w2 HB2.out).mono ?_
 rintro r w3 ⟨rfl,hb3⟩
 have HB3:=hide (HB2.out.trans (hb3.mono HB2.out.size))
 clear hb3 HK3 HB2
 have hq3:=HH.out.below HB3.out
 obtain⟨g0,g1,g2⟩:=hq3.cells
 have f2:=hq3.fz 2
 have HQ:=hide (HH.out.onQ HB3.out (Nat.le_of_lt HN.out))
 clear hq3 g0 g1
 go_wp2_with fail
 obtain⟨W4,hW4⟩:∃W,w3.setCell ⟨c.P,2,none⟩ (.int .i64 ((p.at_:Nat)+1:Int))=W:=⟨_,rfl⟩
 rw[hW4]at HQ ⊢
 clear hW4 g2 f2
 refine (HAT.out W4).mono ?_
 rintro r w5 ⟨rfl,h5⟩
 have hb5:Below W4.heap.size W4 w5:=by
  rcases h5 with h5|⟨t,h5⟩
  ·rw[h5];exact Below.refl _ _
  ·rw[h5];exact below_bytes W4 t
 have HMK:=hide (qmake_any pl (show (0:Int)≤16∧(16:Int)≤22 by decide) (Kids.leaf (od_plain w5 (fun g=>w.heap.size≤g) 16 (u:Int))) rfl (RwG.nil _ _ 0 []))
 have HQ5:=hide (HQ.out.1.below hb5)
 have HG5:=hide (HQ.out.2.blw hb5)
 clear h5 hb5 HAT HQ
 go_wp2_with fail
 refine HMK.out.mono ?_
 rintro r w6 ⟨⟨t,a,rfl,hpm⟩,hb6⟩
 have HPM:=hide hpm
 have HB6:=hide hb6
 clear hpm hb6
 go_wp2
 go_ret
 exact RQ.ok (q:=p.on) hp (HG5.out.blw HB6.out) (HQ5.out.below HB6.out) ⟨⟨_,_,rfl⟩,HPM.out⟩
set_option maxHeartbeats 2000000 in
set_option maxRecDepth 1000000 in
theorem leaf_text {w:World}{c:PsC}{e:PsE}{p:Ps}(pl:Nat)(h:QsW w c e p.at_)(hp:p.bad<0)(hk:e.kind p=4):
 Calls Tryz.prog 181 #[.pointer (some ⟨c.P,0,none⟩),.int .i64 (pl:Nat)] w (RQ c e w { p.on with long:=p.long||decide (60<(unq (e.now p)).1.length) } (KP w (ptN { ndK 17 with text:=byt (unq (e.now p)).1 } pl []))):=by
 have hkn:=knd_kind (e:=e) hp
 have hn:=(kind_pos (e:=e) (p:=p) (by omega)).2
 have HTX:=hide (qtext_any h)
 have HK1:=hide (fun W (hW:Below w.heap.size w W)=>qnext_any 1 (by decide) (h.below hW))
 have HK3:=hide (fun W (hW:Below w.heap.size w W)=>qnext_any 3 (by decide) (h.below hW))
 have HK4:=hide (fun W (hW:Below w.heap.size w W)=>qnext_any 4 (by decide) (h.below hW))
 have hPl:=h.blk.lt
 have htl:=h.tl
 simp only[hkn,hk,decide_true,show decide ((4:Nat)=1)=false from rfl,show decide ((4:Nat)=3)=false from rfl]at HK1 HK3 HK4
 have hnow:=now_txt (e:=e) (p:=p) (by omega)
 have hxs:=txt_le h p.at_
 rw[hnow]
 obtain⟨X,hX⟩:∃X,e.txt p.at_=X:=⟨_,rfl⟩
 rw[hX]at HTX hxs ⊢
 have hul:=unq_le X
 have HUL:=hide (unq_lo X)
 have HH:=hide h
 have HN:=hide hn
 clear h hkn hX hk hnow hn
 have hn5:(p.at_:Int)≤5000:=by have:=HN.out;omega
 go_enter Tryz.func181,Tryz.ntmps181
 go_wp2_with fail
 refine HTX.out.mono ?_
 rintro r w1 ⟨rfl,hb1⟩
 have HB1:=hide hb1
 clear hb1 HTX
 go_wp2_with fail
 refine (HK1.out w1 HB1.out).mono ?_
 rintro r w2 ⟨rfl,hb2⟩
 have HB2:=hide (HB1.out.trans (hb2.mono HB1.out.size))
 clear hb2 HK1 HB1
 go_wp2_with fail
 refine (HK3.out w2 HB2.out).mono ?_
 rintro r w3 ⟨rfl,hb3⟩
 have HB3:=hide (HB2.out.trans (hb3.mono HB2.out.size))
 clear hb3 HK3 HB2
 go_wp2_with fail
 refine (HK4.out w3 HB3.out).mono ?_
 rintro r w3 ⟨rfl,hb3⟩
 replace HB3:=hide (HB3.out.trans (hb3.mono HB3.out.size))
 clear hb3 HK4
 have hq3:=HH.out.below HB3.out
 obtain⟨g0,g1,g2⟩:=hq3.cells
 have f2:=hq3.fz 2
 have HQ:=hide (HH.out.onQ HB3.out (Nat.le_of_lt HN.out))
 clear hq3 g0 g1
 obtain⟨W4,hW4⟩:∃W,w3.setCell ⟨c.P,2,none⟩ (.int .i64 ((p.at_:Nat)+1:Int))=W:=⟨_,rfl⟩
 obtain⟨gc,W5,hcv,hb5,_,hc5,_⟩:=conv_bg W4 X
 rw[hW4]at HQ
 obtain⟨m,te1,te2,pe1,pe2,hlib⟩:=(HQ.out.1.below hb5).env.tab.lib
 have HUN:=hide (implUnq_any W4.heap.size 0 gc X W5 m te1 pe1 (by omega) hlib.tabs hlib.max hlib.syn (fun j hj=>by rw[Nat.zero_add];exact hc5 j hj))
 have HQ5:=hide (HQ.out.1.below hb5)
 have HG5:=hide (HQ.out.2.blw hb5)
 clear hlib hb5 hc5 HQ
 go_wp2_with fail
 refine HUN.out.mono ?_
 rintro r w6 ⟨v,rfl,ho,hb6⟩
 have hbg:=own_bfq (G:=fun g=>w.heap.size≤g) ho HUL.out (fun g hg=>Nat.le_trans HG5.out.size hg)
 obtain⟨va,vc,rfl⟩:=hbg.slc
 have HMK:=hide (qmake_any pl (show (0:Int)≤17∧(17:Int)≤22 by decide) (Kids.leaf (od_text hbg (by rw[byt_size];omega))) rfl (RwG.nil _ _ 0 []))
 have HQ6:=hide (HQ5.out.below hb6)
 have HG6:=hide (HG5.out.blw hb6)
 clear ho hb6 HUN hbg
 go_wp2_with fail
 refine HMK.out.mono ?_
 rintro r w7 ⟨⟨t,a,rfl,hpm⟩,hb7⟩
 have HPM:=hide hpm
 have HB7:=hide hb7
 clear hpm hb7
 go_wp2
 go_ret
 exact RQ.ok (q:={ p.on with long:=p.long||decide (60<(unq X).1.length) }) hp (HG6.out.blw HB7.out) (HQ6.out.below HB7.out) ⟨⟨_,_,rfl⟩,HPM.out⟩
set_option maxHeartbeats 2000000 in
set_option maxRecDepth 1000000 in
theorem leaf_none {w:World}{c:PsC}{e:PsE}{p:Ps}{K:World→Value→Prop}(pl:Nat)(h:QsW w c e p.at_)(hp:p.bad<0)(hk1:e.kind p≠1)(hk3:e.kind p≠3)(hk4:e.kind p≠4):
 Calls Tryz.prog 181 #[.pointer (some ⟨c.P,0,none⟩),.int .i64 (pl:Nat)] w (RQ c e w (e.wrong p) K):=by
 have hkn:=knd_kind (e:=e) hp
 have HTX:=hide (qtext_any h)
 have HK1:=hide (fun W (hW:Below w.heap.size w W)=>qnext_any 1 (by decide) (h.below hW))
 have HK3:=hide (fun W (hW:Below w.heap.size w W)=>qnext_any 3 (by decide) (h.below hW))
 have HK4:=hide (fun W (hW:Below w.heap.size w W)=>qnext_any 4 (by decide) (h.below hW))
 have HF:=hide (fun W (hW:Below w.heap.size w W)=>qfault_any (h.below hW))
 simp only[hkn,decide_eq_false hk1,decide_eq_false hk3,decide_eq_false hk4]at HK1 HK3 HK4
 obtain⟨X,hX⟩:∃X,e.txt p.at_=X:=⟨_,rfl⟩
 rw[hX]at HTX
 have HRQ:Hid (∀W,Below w.heap.size w W→RQ c e w (e.wrong p) K (Flt (e.place ⟨p.at_, -1,false⟩:Nat)) W):=fun W hW=>by
  have hb:(e.wrong p).bad=(e.place p:Nat):=by unfold PsE.wrong;rw[if_pos hp]
  exact⟨Gw.of_below hW,.inr ⟨by rw[hb];omega,by rw[hb];rfl⟩⟩
 obtain⟨Q,hQ⟩:∃Q,e.place ⟨p.at_, -1,false⟩=Q:=⟨_,rfl⟩
 rw[hQ]at HF HRQ
 clear h hkn hX hk1 hk3 hk4 hQ
 go_enter Tryz.func181,Tryz.ntmps181
 go_wp2_with fail
 refine HTX.out.mono ?_
 rintro r w1 ⟨rfl,hb1⟩
 have HB1:=hide hb1
 clear hb1 HTX
 go_wp2_with fail
 refine (HK1.out w1 HB1.out).mono ?_
 rintro r w2 ⟨rfl,hb2⟩
 have HB2:=hide (HB1.out.trans (hb2.mono HB1.out.size))
 clear hb2 HK1 HB1
 go_wp2_with fail
 refine (HK3.out w2 HB2.out).mono ?_
 rintro r w3 ⟨rfl,hb3⟩
 have HB3:=hide (HB2.out.trans (hb3.mono HB2.out.size))
 clear hb3 HK3 HB2
 go_wp2_with fail
 refine (HK4.out w3 HB3.out).mono ?_
 rintro r w4 ⟨rfl,hb4⟩
 have HB4:=hide (HB3.out.trans (hb4.mono HB3.out.size))
 clear hb4 HK4 HB3
 go_wp2_with fail
 refine (HF.out w4 HB4.out).mono ?_
 rintro r w5 ⟨rfl,hb5⟩
 have HB5:=hide (HB4.out.trans (hb5.mono HB4.out.size))
 clear hb5 HF HB4
 go_wp2
 exact⟨rfl,HRQ.out _ HB5.out⟩
theorem qleaf {w:World}{c:PsC}{e:PsE}{p:Ps}(pl:Nat)(hE:EOk e)(h:QsW w c e p.at_)(hp:p.bad<0):
 Calls Tryz.prog 181 #[.pointer (some ⟨c.P,0,none⟩),.int .i64 (pl:Nat)] w (RQ c e w (rLf e pl p).2 (KP w (rLf e pl p).1)):=by
 unfold rLf
 by_cases k3:e.kind p=3
 ·rw[if_pos k3];exact leaf_num pl hE h hp k3
 rw[if_neg k3]
 by_cases k4:e.kind p=4
 ·rw[if_pos k4];exact leaf_text pl h hp k4
 rw[if_neg k4]
 by_cases k1:e.kind p=1
 ·exact leaf_name pl h hp k1
 ·have hi:(e.ident p).2=e.wrong p:=by unfold PsE.ident;rw[if_neg k1]
  rw[hi]
  exact leaf_none pl h hp k1 k3 k4
theorem info_partsV {P:Program}{t:TypeId}{z:Value}{a b:Nat}(h:(P.info? t).map (fun i=>(i.zero,i.size,i.bytes))=some (some z,a,b)):∃i,P.info? t=some i∧i.zero=some z∧i.size=a∧i.bytes=b:=by
 cases hi:P.info? t with
 |none=>rw[hi]at h;cases h
 |some i=>rw[hi]at h;simp at h;exact⟨i,rfl,h.1,h.2.1,h.2.2⟩
theorem one_news {w:World}{g:Nat}{u:Value}(h:w.cell? ⟨g,0,none⟩=some u):∀j x,([u]:List Value)[j]?=some x→w.cell? ((⟨g,0,none⟩:Addr).add j)=some x
 |0,x,hx=>by
  have e:(⟨g,0,none⟩:Addr).add 0 = ⟨g,0,none⟩:=by unfold Addr.add;split<;>simp_all
  rw[e,h]
  exact hx
 |_+1,_,hx=>by cases hx
theorem wp_app1V {P:Program}{ops:Array Oper}{rest:List Oper}{o:Oper}{a:Act}{Q:Exit→Act→World→Prop}{w:World}(hgd:o.guard=none)(s x:Operand)(t e:TypeId)
 (ho:o.op = .call { callee:=.builtin .append,args:=#[s,x],argTypes:=#[t,t] }) (z:Value) (bytes:Nat) (ht:P.underlying t=some (.slice e)) (hinfo:(P.info? e).map (fun i=>(i.zero,i.size,i.bytes))=some (some z,1,bytes)) (hzc:z.cells.size=1) (hby:bytes≤1000)
 (B:Nat) (v:Value) (n:Nat) (xs:List Value) (hs:a.eval s=v) (hown:w.ownsRow B e 1 v n xs)
 (g c:Nat) (u:Value) (hx:a.eval x = .slice (some ⟨g,0,none⟩) 1 c) (hnew:w.cell? ⟨g,0,none⟩=some u) (hone:u.oneCell'=true) (hlen:n≤10000000) (hbase:B≤w.heap.size)
 (h:∀v' w',w'.ownsRow B e 1 v' (n+1) (xs++[u])→w.grownBy w' v.ownBlock→(v'.ownBlock=v.ownBlock∨v'.ownBlock=some w.heap.size)→wpList P ops Q rest (a.put o.dst v') w'):wpList P ops Q (o::rest) a w:=by
 obtain⟨i0,hi,hz0,hz1,hz2⟩:=info_partsV hinfo
 refine wpList_append_own_at _ hgd s x t ho B e i0 z 1 bytes ht hi hz0 hz1 hz2 hzc (by decide) v n xs hs hown ⟨g,0,none⟩ 1 c [u] hx rfl (one_news hnew) (fun y hy=>by rw[List.mem_singleton.1 hy];exact hone) (by unfold maxLen;omega) ?_ hbase (fun v' w' h1 h2 _ h4=>h v' w' h1 h2 h4)
 have:(n+1)*bytes≤10000001*1000:=Nat.mul_le_mul (by omega) hby
 omega
theorem Tryz.infoPart : (Tryz.prog.info? 65).map (fun i=>(i.zero,i.size,i.bytes))=some (some .nilIface,1,16):=by kernel_rfl
theorem QsW.far {P:Nat→Prop}{w w':World}{c:PsC}{e:PsE}{n:Nat}(h:QsW w c e n)(hg:Gw P w w')(hp:∀k,P k→c.P<k):QsW w' c e n:=by
 obtain⟨w0,h1,h2,h3⟩:=h.env
 refine⟨hg.blk h.blk (fun q=>Nat.lt_irrefl _ (hp _ q)),h.ta,fun i hi=>?_,h.tin,h.tl,h.szl,h.at_,w0,h1,hg.below h2 (by have:=h2.size;omega) (fun k hk q=>by have:=hp k q;omega),h3⟩
 have n:¬P c.tb:=fun q=>by have:=hp _ q;have:=(h.ta (by omega)).2;omega
 exact⟨hg.cell (h.tok i hi).1 n,hg.cell (h.tok i hi).2.1 n,hg.cell (h.tok i hi).2.2 n⟩
theorem PO.nil (w:World)(B hi:Nat):PO w B hi (.slice none 0 0) [] []:=⟨rfl,⟨rfl,.inl ⟨rfl,rfl⟩⟩,fun u hu=>(by cases hu),fun _ _=>False,fun _ _ _ _ h=>h.elim,fun _ _ h=>h.elim,fun j k u h _=>(by simp at h)⟩
theorem PO.low {w:World}{B B' hi:Nat}{v:Value}{ks:List Pt}{us:List Value}(h:PO w B hi v ks us)(hB:B'≤B):PO w B' hi v ks us:=by
 obtain⟨Gs,d1,s1,e1⟩:=h.el
 exact⟨h.len,own_base h.own hB,h.one,Gs,d1,fun j g a=>⟨Nat.le_trans hB (s1 j g a).1,(s1 j g a).2⟩,e1⟩
theorem PO.up {w:World}{B hi hi':Nat}{v:Value}{ks:List Pt}{us:List Value}(h:PO w B hi v ks us)(hh:hi≤hi'):PO w B hi' v ks us:=by
 obtain⟨Gs,d1,s1,e1⟩:=h.el
 exact⟨h.len,h.own,h.one,Gs,d1,fun j g a=>⟨(s1 j g a).1,Nat.lt_of_lt_of_le (s1 j g a).2.1 hh,(s1 j g a).2.2⟩,e1⟩
theorem Gw.row {w0 W w':World}{R B:Nat}{v:Value}{e sz n:Nat}{xs:List Value}(h:Gw (· = R) w0 W)(ho:W.ownsRow B e sz v n xs)(hB:w0.heap.size≤B)(hg:W.grownBy w' v.ownBlock):Gw (· = R) w0 w':=
 h.trans (Gw.of_grown (P:=fun k=>v.ownBlock=some k) hg (fun k hk _=>hk)) (fun j hj q=>by have:=(World.ownsRow.lt ho j q).1;omega)
theorem QsW.row {W w':World}{c:PsC}{q:PsE}{i B:Nat}{v:Value}{e sz n:Nat}{xs:List Value}(h:QsW W c q i)(ho:W.ownsRow B e sz v n xs)(hB:c.P<B)(hg:W.grownBy w' v.ownBlock):QsW w' c q i:=
 h.far (Gw.of_grown (P:=fun k=>v.ownBlock=some k) hg (fun k hk _=>hk)) (fun j hj=>by have:=(World.ownsRow.lt ho j hj).1;omega)
theorem PM.row {w W w':World}{G:Nat→Prop}{v u:Value}{x:Pt}(h:PM w G x u)(hv:∀g,G g→v.ownBlock≠some g)(hW:Below w.heap.size w W)(hg:W.grownBy w' v.ownBlock):PM w' G x u:=
 (h.kept hW).gw (Gw.of_grown (P:=fun k=>v.ownBlock=some k) hg (fun _ hk _=>hk)) (fun k hk q=>hv k q hk)
theorem PO.apps {w W w':World}{B hi a top:Nat}{v v':Value}{ks xs:List Pt}{us ys:List Value}(h:PO w B hi v ks us)(hy:ys.length=xs.length)(hy1:∀u∈ys,u.oneCell'=true)(hx:Pts w a top xs ys)(hv:∀g,v.ownBlock=some g→g<a)(h1:hi≤a)(h2:B≤a)(h3:hi≤top)(h4:top≤W.heap.size)(hW:Below w.heap.size w W)(ho:w'.ownsRow B 65 1 v' (ks.length+xs.length) (us++ys))(hg:W.grownBy w' v.ownBlock)(hob:v'.ownBlock=v.ownBlock∨v'.ownBlock=some W.heap.size):PO w' B top v' (ks++xs) (us++ys):=by
 obtain⟨Gs,d1,s1,e1⟩:=h.el
 obtain⟨Gx,d2,s2,e2⟩:=hx
 have n1:∀j g,Gs j g→v'.ownBlock≠some g:=fun j g q z=>by
  rcases hob with r|r
  ·exact (s1 j g q).2.2 (by rw[← r];exact z)
  ·rw[r]at z;injection z with z;have:=s1 j g q;omega
 have n2:∀j g,Gx j g→v.ownBlock≠some g:=fun j g q z=>by have:=hv g z;have:=s2 j g q;omega
 have n3:∀j g,Gx j g→v'.ownBlock≠some g:=fun j g q z=>by
  rcases hob with r|r
  ·exact n2 j g q (by rw[← r];exact z)
  ·rw[r]at z;injection z with z;have:=s2 j g q;omega
 refine⟨by rw[List.length_append,List.length_append,h.len,hy],by rw[List.length_append];exact ho,fun u hu=>?_,fun j=>if j<ks.length then Gs j else Gx (j - ks.length),fun i j g q x y=>?_,fun j g x=>?_,fun j k u hk hu=>?_⟩
 ·rcases List.mem_append.1 hu with q|q
  ·exact h.one u q
  ·exact hy1 u q
 ·simp only at x y
  split at x<;>split at y
  ·exact d1 i j g q x y
  ·have:=s1 _ _ x;have:=s2 _ _ y;omega
  ·have:=s2 _ _ x;have:=s1 _ _ y;omega
  ·exact d2 _ _ g (by omega) x y
 ·simp only at x
  split at x
  ·have:=s1 _ _ x;exact⟨this.1,by omega,n1 _ _ x⟩
  ·have:=s2 _ _ x;exact⟨by omega,by omega,n3 _ _ x⟩
 ·by_cases hj:j<ks.length
  ·rw[List.getElem?_append_left hj]at hk
   rw[List.getElem?_append_left (by rw[h.len];exact hj)]at hu
   simp only[if_pos hj]
   exact (e1 j k u hk hu).row (fun g q=>(s1 _ g q).2.2) hW hg
  ·rw[List.getElem?_append_right (by omega)]at hk
   rw[List.getElem?_append_right (by rw[h.len];omega),h.len]at hu
   simp only[if_neg hj]
   exact (e2 _ k u hk hu).row (n2 _) hW hg
theorem PO.app {w W w':World}{B hi a top:Nat}{v v' u:Value}{ks:List Pt}{x:Pt}{us:List Value}(h:PO w B hi v ks us)(hx:PM w (Iv a top) x u)(h1:u.oneCell'=true)(hv:∀g,v.ownBlock=some g→g<a)(k1:hi≤a)(k2:B≤a)(k3:hi≤top)(k4:top≤W.heap.size)(hW:Below w.heap.size w W)(ho:w'.ownsRow B 65 1 v' (ks.length+1) (us++[u]))(hg:W.grownBy w' v.ownBlock)(hob:v'.ownBlock=v.ownBlock∨v'.ownBlock=some W.heap.size):PO w' B top v' (ks++[x]) (us++[u]):=
 h.apps rfl (fun y hy=>by rw[List.mem_singleton.1 hy];exact h1) (Pts.one hx) hv k1 k2 k3 k4 hW ho hg hob
theorem PO.olt {w:World}{B hi:Nat}{v:Value}{ks:List Pt}{us:List Value}(h:PO w B hi v ks us):∀g,v.ownBlock=some g→g<w.heap.size:=fun g q=>(World.ownsRow.lt h.own g q).2
end Go.Proofs.YtbiakdjpeblclaaGreatDoor

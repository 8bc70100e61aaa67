/-
  The walk of spec.l2readStat: cells and areas.
-/
import Derived.Test.YtbiakdjpeblclaaGreatDoorJPaPIF
namespace Go.Proofs.YtbiakdjpeblclaaGreatDoor
open Go.RowKit
theorem cell_le4 (e:PsE)(f:Nat)(p:Ps):(rCell e f p).1.length≤4:=by show 2≤4;omega
theorem area_le4 (e:PsE)(f:Nat)(p:Ps):(rArea e f p).1.length≤4:=by
 unfold rArea
 simp only
 split
 ·show ((rCell e f p).1++(rCell e f (rCell e f p).2.on).1).length≤4
  rw[List.length_append];show 2+2≤4;omega
 ·show 2≤4;omega
set_option maxHeartbeats 8000000 in
set_option maxRecDepth 1000000 in
theorem stat_grid {w:World}{c:PsC}{e:PsE}{p:Ps}{f:Nat}(h:PsW w c e p)(hf:2*e.T.length+3≤f)(n0:e.is p (⟨#[105,102]⟩:ByteArray)=false)(n1:e.is p (⟨#[102,111,114]⟩:ByteArray)=false)(n2:e.is p (⟨#[108,101,116]⟩:ByteArray)=false)(n3:e.is p (⟨#[99,97,108,108]⟩:ByteArray)=false)(h1:e.is p (⟨#[103,114,105,100]⟩:ByteArray)=true):
 Calls Tryz.prog 19 #[.pointer (some ⟨c.P,0,none⟩)] w (ExQ c e w (rFlat e f p)):=by
 have HS0:=hide (RSt.start h)
 have htl:=h.tl
 have hat:=h.at_
 have hpl:=PsE.place_le h
 have HPL:=hide (l2place_any (RSt.start h).ps)
 have hfi:=fi_le (e:=e) p
 have hnu:nu p≤1:=by unfold nu;split<;>omega
 have hBF:=(bd_flat e f p).len
 have HE:Hid (rFlat e f p=rEnd e (ndK 7) (e.place p) (rCell e f p.on)):=by
  show _=_
  unfold rFlat
  rw[if_neg (by rw[n2];exact Bool.false_ne_true),if_neg (by rw[n3];exact Bool.false_ne_true),if_pos h1]
 obtain⟨W0,hW0⟩:∃W,w.alloc (.cells #[.slice none 0 0,.slice none 0 0] 45)=W:=⟨_,rfl⟩
 rw[hW0]at HS0 HPL
 obtain⟨pl,hplE⟩:∃q,e.place p=q:=⟨_,rfl⟩
 rw[hplE]at hpl HPL HE
 rw[HE.out]at hBF ⊢
 simp only[rEnd,ptN_len]at hBF
 have HBF:=hide hBF
 have HKL:Hid ((rCell e f p.on).1.length≤4):=cell_le4 e f p.on
 clear h hplE hBF
 obtain⟨X,hX⟩:∃X,rCell e f p.on=X:=⟨_,rfl⟩
 rw[hX]at HBF HKL ⊢
 have HXE:=hide hX
 clear hX
 go_enter Tryz.func19,Tryz.ntmps19
 go_wp2_with fail
 refine HPL.out.mono ?_
 rintro r V ⟨rfl,m0,rfl⟩
 have HS1:=hide (HS0.out.below (below_drewN (Below.refl _ _) m0))
 clear HPL hW0 HS0
 go_wp2_with fail
 refine (l2got_any (⟨#[105,102]⟩:ByteArray) HS1.out.ps).mono ?_
 rw[n0,if_neg Bool.false_ne_true]
 rintro r V ⟨rfl,hq⟩
 have HSa:=hide (HS1.out.rd hq)
 clear hq HS1
 go_wp2_with fail
 refine (l2got_any (⟨#[102,111,114]⟩:ByteArray) HSa.out.ps).mono ?_
 rw[n1,if_neg Bool.false_ne_true]
 rintro r V ⟨rfl,hq⟩
 have HSb:=hide (HSa.out.rd hq)
 clear hq HSa
 obtain⟨Va,hVa⟩:∃W,V.alloc (.cells #[.int .i64 0,.int .i64 0,.slice none 0 0,.slice none 0 0,.slice none 0 0,.int .i64 0] 51)=W:=⟨_,rfl⟩
 have hFn:=FSt.start HSb.out
 rw[hVa]at hFn
 have hOb:Blk Va V.heap.size 51 #[.int .i64 0,.int .i64 0,.slice none 0 0,.slice none 0 0,.slice none 0 0,.int .i64 0]:=by rw[← hVa];exact Blk.new _ _ _
 have o0:=hOb.cell 0
 have of0:=hOb.frozen 0
 have o1:=hOb.cell 1
 have of1:=hOb.frozen 1
 have o2:=hOb.cell 2
 have of2:=hOb.frozen 2
 have o3:=hOb.cell 3
 have of3:=hOb.frozen 3
 have o4:=hOb.cell 4
 have of4:=hOb.frozen 4
 have o5:=hOb.cell 5
 have of5:=hOb.frozen 5
 simp only[List.getElem?_toArray,List.getElem?_cons_succ,List.getElem?_cons_zero]at o0 o1 o2 o3 o4 o5
 obtain⟨Vb,hVb⟩:∃W,set6w Va V.heap.size (.int .i64 0) (.int .i64 0) (.slice none 0 0) (.slice none 0 0) (.slice none 0 0) (.int .i64 0)=W:=⟨_,rfl⟩
 rw[hVb]at hFn
 unfold set6w at hVb
 have HFn:=hide hFn
 clear hFn hOb HSb
 go_wp2_with fail
 obtain⟨O,hO⟩:∃O,V.heap.size=O:=⟨_,rfl⟩
 rw[hO]at HFn ⊢
 clear hO hVa hVb o0 of0 o1 of1 o2 of2 o3 of3 o4 of4 o5 of5
 refine (l2got_any (⟨#[108,101,116]⟩:ByteArray) HFn.out.st.ps).mono ?_
 rw[n2,if_neg Bool.false_ne_true]
 rintro r V ⟨rfl,hq⟩
 have HF2:=hide (HFn.out.rd hq)
 clear hq HFn
 go_wp2_with fail
 refine (l2got_any (⟨#[99,97,108,108]⟩:ByteArray) HF2.out.st.ps).mono ?_
 rw[n3,if_neg Bool.false_ne_true]
 rintro r V ⟨rfl,hq⟩
 have HF3:=hide (HF2.out.rd hq)
 clear hq HF2
 go_wp2_with fail
 refine (l2got_any (⟨#[103,114,105,100]⟩:ByteArray) HF3.out.st.ps).mono ?_
 rw[h1,if_pos rfl]
 rintro r V ⟨rfl,hq⟩
 have HG:=hide (HF3.out.rd hq)
 clear hq HF3
 have n0:=HG.out.nb.cell 0
 have nf0:=HG.out.nb.frozen 0
 simp only[List.getElem?_toArray,List.getElem?_cons_zero]at n0
 obtain⟨Vk,hVk⟩:∃W,World.setCell V ⟨O,0,none⟩ (.int .i64 7)=W:=⟨_,rfl⟩
 have HG1:=hide (HG.out.setK 7)
 rw[hVk]at HG1
 clear HG
 go_wp2_with fail
 refine (cell_any HG1.out.st.ps hf).mono ?_
 rintro r V2 ⟨kv,rfl,hk,hq⟩
 rw[HXE.out]at hk hq
 have HG2:=hide (HG1.out.rd hq)
 have HK2:=hide (hk.lower HG1.out.bsz (fun g hg=>Nat.le_trans HG1.out.bsz hg))
 obtain⟨ka,kc,rfl⟩:=hk.slc
 clear hk hq HG1
 go_wp2_with fail
 refine (l2want_any (⟨#[59]⟩:ByteArray) HG2.out.st.ps).mono ?_
 rintro r Vw ⟨rfl,hq⟩
 have hSt:=HG2.out.rd hq
 have hKt:=HK2.out.rdF HG2.out hq
 have hlo:=hSt.lo
 have HPR:=hide ((hKt.mono (G':=fun g=>w.heap.size<g) (fun g hg _=>by omega)).pr (fun g hg=>by omega))
 have HOK:=hide (hSt.ok.mono (G':=fun g=>w.heap.size<g) (fun g hg _=>by omega))
 have m0:=hSt.nb.cell 0
 have m1:=hSt.nb.cell 1
 have m2:=hSt.nb.cell 2
 have m3:=hSt.nb.cell 3
 have m4:=hSt.nb.cell 4
 have m5:=hSt.nb.cell 5
 simp only[List.getElem?_toArray,List.getElem?_cons_succ,List.getElem?_cons_zero]at m0 m1 m2 m3 m4 m5
 have HSr:=hide hSt.st
 have hbf:=HBF.out
 clear hq hSt hKt hlo HG2 HK2
 go_wp2_with fail
 refine (l2node_any (m:=⟨ndK 7,.slice none 0 0,.slice none 0 0,.slice none 0 0⟩) (pl:=pl) (G:=fun g=>w.heap.size<g) (HOK.out) (HPR.out) (fun g hg=>Nat.lt_of_lt_of_le HSr.out.size hg) (by omega) (by have:=HKL.out;omega)).mono ?_
 rintro r Vz ⟨vt,vp,rfl,hv,hbz⟩
 have HF:=hide (HSr.out.below hbz)
 obtain⟨ga,gc,gb,gd,rfl,rfl,_,_⟩:=hv.slc
 have HV:=hide hv
 have r0:=HF.out.res.cell 0
 have r1:=HF.out.res.cell 1
 have f0:=HF.out.res.frozen 0
 have f1:=HF.out.res.frozen 1
 simp only[List.getElem?_toArray,List.getElem?_cons_succ,List.getElem?_cons_zero]at r0 r1
 clear hv hbz
 go_wp2_with fail
 refine bodyPost_ret (results_one rfl _ _ _ w.heap.size 45 _ (0,0) rfl ((HF.out.res.set 0 _).set 1 _) Tryz.underlying45 (by kernel_rfl)) rfl ?_
 exact HF.out.fin HV.out
set_option maxHeartbeats 8000000 in
set_option maxRecDepth 1000000 in
theorem stat_wall {w:World}{c:PsC}{e:PsE}{p:Ps}{f:Nat}(h:PsW w c e p)(hf:2*e.T.length+3≤f)(n0:e.is p (⟨#[105,102]⟩:ByteArray)=false)(n1:e.is p (⟨#[102,111,114]⟩:ByteArray)=false)(n2:e.is p (⟨#[108,101,116]⟩:ByteArray)=false)(n3:e.is p (⟨#[99,97,108,108]⟩:ByteArray)=false)(n4:e.is p (⟨#[103,114,105,100]⟩:ByteArray)=false)(h1:e.is p (⟨#[119,97,108,108]⟩:ByteArray)=true):
 Calls Tryz.prog 19 #[.pointer (some ⟨c.P,0,none⟩)] w (ExQ c e w (rFlat e f p)):=by
 have HS0:=hide (RSt.start h)
 have htl:=h.tl
 have hat:=h.at_
 have hpl:=PsE.place_le h
 have HPL:=hide (l2place_any (RSt.start h).ps)
 have hfi:=fi_le (e:=e) p
 have hnu:nu p≤1:=by unfold nu;split<;>omega
 have hBF:=(bd_flat e f p).len
 have HE:Hid (rFlat e f p=rEnd e (ndK 8) (e.place p) (rArea e f p.on)):=by
  show _=_
  unfold rFlat
  rw[if_neg (by rw[n2];exact Bool.false_ne_true),if_neg (by rw[n3];exact Bool.false_ne_true),if_neg (by rw[n4];exact Bool.false_ne_true),if_pos h1]
 obtain⟨W0,hW0⟩:∃W,w.alloc (.cells #[.slice none 0 0,.slice none 0 0] 45)=W:=⟨_,rfl⟩
 rw[hW0]at HS0 HPL
 obtain⟨pl,hplE⟩:∃q,e.place p=q:=⟨_,rfl⟩
 rw[hplE]at hpl HPL HE
 rw[HE.out]at hBF ⊢
 simp only[rEnd,ptN_len]at hBF
 have HBF:=hide hBF
 have HKL:Hid ((rArea e f p.on).1.length≤4):=area_le4 e f p.on
 clear h hplE hBF
 obtain⟨X,hX⟩:∃X,rArea e f p.on=X:=⟨_,rfl⟩
 rw[hX]at HBF HKL ⊢
 have HXE:=hide hX
 clear hX
 go_enter Tryz.func19,Tryz.ntmps19
 go_wp2_with fail
 refine HPL.out.mono ?_
 rintro r V ⟨rfl,m0,rfl⟩
 have HS1:=hide (HS0.out.below (below_drewN (Below.refl _ _) m0))
 clear HPL hW0 HS0
 go_wp2_with fail
 refine (l2got_any (⟨#[105,102]⟩:ByteArray) HS1.out.ps).mono ?_
 rw[n0,if_neg Bool.false_ne_true]
 rintro r V ⟨rfl,hq⟩
 have HSa:=hide (HS1.out.rd hq)
 clear hq HS1
 go_wp2_with fail
 refine (l2got_any (⟨#[102,111,114]⟩:ByteArray) HSa.out.ps).mono ?_
 rw[n1,if_neg Bool.false_ne_true]
 rintro r V ⟨rfl,hq⟩
 have HSb:=hide (HSa.out.rd hq)
 clear hq HSa
 obtain⟨Va,hVa⟩:∃W,V.alloc (.cells #[.int .i64 0,.int .i64 0,.slice none 0 0,.slice none 0 0,.slice none 0 0,.int .i64 0] 51)=W:=⟨_,rfl⟩
 have hFn:=FSt.start HSb.out
 rw[hVa]at hFn
 have hOb:Blk Va V.heap.size 51 #[.int .i64 0,.int .i64 0,.slice none 0 0,.slice none 0 0,.slice none 0 0,.int .i64 0]:=by rw[← hVa];exact Blk.new _ _ _
 have o0:=hOb.cell 0
 have of0:=hOb.frozen 0
 have o1:=hOb.cell 1
 have of1:=hOb.frozen 1
 have o2:=hOb.cell 2
 have of2:=hOb.frozen 2
 have o3:=hOb.cell 3
 have of3:=hOb.frozen 3
 have o4:=hOb.cell 4
 have of4:=hOb.frozen 4
 have o5:=hOb.cell 5
 have of5:=hOb.frozen 5
 simp only[List.getElem?_toArray,List.getElem?_cons_succ,List.getElem?_cons_zero]at o0 o1 o2 o3 o4 o5
 obtain⟨Vb,hVb⟩:∃W,set6w Va V.heap.size (.int .i64 0) (.int .i64 0) (.slice none 0 0) (.slice none 0 0) (.slice none 0 0) (.int .i64 0)=W:=⟨_,rfl⟩
 rw[hVb]at hFn
 unfold set6w at hVb
 have HFn:=hide hFn
 clear hFn hOb HSb
 go_wp2_with fail
 obtain⟨O,hO⟩:∃O,V.heap.size=O:=⟨_,rfl⟩
 rw[hO]at HFn ⊢
 clear hO hVa hVb o0 of0 o1 of1 o2 of2 o3 of3 o4 of4 o5 of5
 refine (l2got_any (⟨#[108,101,116]⟩:ByteArray) HFn.out.st.ps).mono ?_
 rw[n2,if_neg Bool.false_ne_true]
 rintro r V ⟨rfl,hq⟩
 have HF2:=hide (HFn.out.rd hq)
 clear hq HFn
 go_wp2_with fail
 refine (l2got_any (⟨#[99,97,108,108]⟩:ByteArray) HF2.out.st.ps).mono ?_
 rw[n3,if_neg Bool.false_ne_true]
 rintro r V ⟨rfl,hq⟩
 have HF3:=hide (HF2.out.rd hq)
 clear hq HF2
 go_wp2_with fail
 refine (l2got_any (⟨#[103,114,105,100]⟩:ByteArray) HF3.out.st.ps).mono ?_
 rw[n4,if_neg Bool.false_ne_true]
 rintro r V ⟨rfl,hq⟩
 have HF4:=hide (HF3.out.rd hq)
 clear hq HF3
 go_wp2_with fail
 refine (l2got_any (⟨#[119,97,108,108]⟩:ByteArray) HF4.out.st.ps).mono ?_
 rw[h1,if_pos rfl]
 rintro r V ⟨rfl,hq⟩
 have HG:=hide (HF4.out.rd hq)
 clear hq HF4
 have n0:=HG.out.nb.cell 0
 have nf0:=HG.out.nb.frozen 0
 simp only[List.getElem?_toArray,List.getElem?_cons_zero]at n0
 obtain⟨Vk,hVk⟩:∃W,World.setCell V ⟨O,0,none⟩ (.int .i64 8)=W:=⟨_,rfl⟩
 have HG1:=hide (HG.out.setK 8)
 rw[hVk]at HG1
 clear HG
 go_wp2_with fail
 refine (area_any HG1.out.st.ps hf).mono ?_
 rintro r V2 ⟨kv,rfl,hk,hq⟩
 rw[HXE.out]at hk hq
 have HG2:=hide (HG1.out.rd hq)
 have HK2:=hide (hk.lower HG1.out.bsz (fun g hg=>Nat.le_trans HG1.out.bsz hg))
 obtain⟨ka,kc,rfl⟩:=hk.slc
 clear hk hq HG1
 go_wp2_with fail
 refine (l2want_any (⟨#[59]⟩:ByteArray) HG2.out.st.ps).mono ?_
 rintro r Vw ⟨rfl,hq⟩
 have hSt:=HG2.out.rd hq
 have hKt:=HK2.out.rdF HG2.out hq
 have hlo:=hSt.lo
 have HPR:=hide ((hKt.mono (G':=fun g=>w.heap.size<g) (fun g hg _=>by omega)).pr (fun g hg=>by omega))
 have HOK:=hide (hSt.ok.mono (G':=fun g=>w.heap.size<g) (fun g hg _=>by omega))
 have m0:=hSt.nb.cell 0
 have m1:=hSt.nb.cell 1
 have m2:=hSt.nb.cell 2
 have m3:=hSt.nb.cell 3
 have m4:=hSt.nb.cell 4
 have m5:=hSt.nb.cell 5
 simp only[List.getElem?_toArray,List.getElem?_cons_succ,List.getElem?_cons_zero]at m0 m1 m2 m3 m4 m5
 have HSr:=hide hSt.st
 have hbf:=HBF.out
 clear hq hSt hKt hlo HG2 HK2
 go_wp2_with fail
 refine (l2node_any (m:=⟨ndK 8,.slice none 0 0,.slice none 0 0,.slice none 0 0⟩) (pl:=pl) (G:=fun g=>w.heap.size<g) (HOK.out) (HPR.out) (fun g hg=>Nat.lt_of_lt_of_le HSr.out.size hg) (by omega) (by have:=HKL.out;omega)).mono ?_
 rintro r Vz ⟨vt,vp,rfl,hv,hbz⟩
 have HF:=hide (HSr.out.below hbz)
 obtain⟨ga,gc,gb,gd,rfl,rfl,_,_⟩:=hv.slc
 have HV:=hide hv
 have r0:=HF.out.res.cell 0
 have r1:=HF.out.res.cell 1
 have f0:=HF.out.res.frozen 0
 have f1:=HF.out.res.frozen 1
 simp only[List.getElem?_toArray,List.getElem?_cons_succ,List.getElem?_cons_zero]at r0 r1
 clear hv hbz
 go_wp2_with fail
 refine bodyPost_ret (results_one rfl _ _ _ w.heap.size 45 _ (0,0) rfl ((HF.out.res.set 0 _).set 1 _) Tryz.underlying45 (by kernel_rfl)) rfl ?_
 exact HF.out.fin HV.out
set_option maxHeartbeats 8000000 in
set_option maxRecDepth 1000000 in
theorem stat_open {w:World}{c:PsC}{e:PsE}{p:Ps}{f:Nat}(h:PsW w c e p)(hf:2*e.T.length+3≤f)(n0:e.is p (⟨#[105,102]⟩:ByteArray)=false)(n1:e.is p (⟨#[102,111,114]⟩:ByteArray)=false)(n2:e.is p (⟨#[108,101,116]⟩:ByteArray)=false)(n3:e.is p (⟨#[99,97,108,108]⟩:ByteArray)=false)(n4:e.is p (⟨#[103,114,105,100]⟩:ByteArray)=false)(n5:e.is p (⟨#[119,97,108,108]⟩:ByteArray)=false)(h1:e.is p (⟨#[111,112,101,110]⟩:ByteArray)=true):
 Calls Tryz.prog 19 #[.pointer (some ⟨c.P,0,none⟩)] w (ExQ c e w (rFlat e f p)):=by
 have HS0:=hide (RSt.start h)
 have htl:=h.tl
 have hat:=h.at_
 have hpl:=PsE.place_le h
 have HPL:=hide (l2place_any (RSt.start h).ps)
 have hfi:=fi_le (e:=e) p
 have hnu:nu p≤1:=by unfold nu;split<;>omega
 have hBF:=(bd_flat e f p).len
 have HE:Hid (rFlat e f p=rEnd e (ndK 9) (e.place p) (rArea e f p.on)):=by
  show _=_
  unfold rFlat
  rw[if_neg (by rw[n2];exact Bool.false_ne_true),if_neg (by rw[n3];exact Bool.false_ne_true),if_neg (by rw[n4];exact Bool.false_ne_true),if_neg (by rw[n5];exact Bool.false_ne_true),if_pos h1]
 obtain⟨W0,hW0⟩:∃W,w.alloc (.cells #[.slice none 0 0,.slice none 0 0] 45)=W:=⟨_,rfl⟩
 rw[hW0]at HS0 HPL
 obtain⟨pl,hplE⟩:∃q,e.place p=q:=⟨_,rfl⟩
 rw[hplE]at hpl HPL HE
 rw[HE.out]at hBF ⊢
 simp only[rEnd,ptN_len]at hBF
 have HBF:=hide hBF
 have HKL:Hid ((rArea e f p.on).1.length≤4):=area_le4 e f p.on
 clear h hplE hBF
 obtain⟨X,hX⟩:∃X,rArea e f p.on=X:=⟨_,rfl⟩
 rw[hX]at HBF HKL ⊢
 have HXE:=hide hX
 clear hX
 go_enter Tryz.func19,Tryz.ntmps19
 go_wp2_with fail
 refine HPL.out.mono ?_
 rintro r V ⟨rfl,m0,rfl⟩
 have HS1:=hide (HS0.out.below (below_drewN (Below.refl _ _) m0))
 clear HPL hW0 HS0
 go_wp2_with fail
 refine (l2got_any (⟨#[105,102]⟩:ByteArray) HS1.out.ps).mono ?_
 rw[n0,if_neg Bool.false_ne_true]
 rintro r V ⟨rfl,hq⟩
 have HSa:=hide (HS1.out.rd hq)
 clear hq HS1
 go_wp2_with fail
 refine (l2got_any (⟨#[102,111,114]⟩:ByteArray) HSa.out.ps).mono ?_
 rw[n1,if_neg Bool.false_ne_true]
 rintro r V ⟨rfl,hq⟩
 have HSb:=hide (HSa.out.rd hq)
 clear hq HSa
 obtain⟨Va,hVa⟩:∃W,V.alloc (.cells #[.int .i64 0,.int .i64 0,.slice none 0 0,.slice none 0 0,.slice none 0 0,.int .i64 0] 51)=W:=⟨_,rfl⟩
 have hFn:=FSt.start HSb.out
 rw[hVa]at hFn
 have hOb:Blk Va V.heap.size 51 #[.int .i64 0,.int .i64 0,.slice none 0 0,.slice none 0 0,.slice none 0 0,.int .i64 0]:=by rw[← hVa];exact Blk.new _ _ _
 have o0:=hOb.cell 0
 have of0:=hOb.frozen 0
 have o1:=hOb.cell 1
 have of1:=hOb.frozen 1
 have o2:=hOb.cell 2
 have of2:=hOb.frozen 2
 have o3:=hOb.cell 3
 have of3:=hOb.frozen 3
 have o4:=hOb.cell 4
 have of4:=hOb.frozen 4
 have o5:=hOb.cell 5
 have of5:=hOb.frozen 5
 simp only[List.getElem?_toArray,List.getElem?_cons_succ,List.getElem?_cons_zero]at o0 o1 o2 o3 o4 o5
 obtain⟨Vb,hVb⟩:∃W,set6w Va V.heap.size (.int .i64 0) (.int .i64 0) (.slice none 0 0) (.slice none 0 0) (.slice none 0 0) (.int .i64 0)=W:=⟨_,rfl⟩
 rw[hVb]at hFn
 unfold set6w at hVb
 have HFn:=hide hFn
 clear hFn hOb HSb
 go_wp2_with fail
 obtain⟨O,hO⟩:∃O,V.heap.size=O:=⟨_,rfl⟩
 rw[hO]at HFn ⊢
 clear hO hVa hVb o0 of0 o1 of1 o2 of2 o3 of3 o4 of4 o5 of5
 refine (l2got_any (⟨#[108,101,116]⟩:ByteArray) HFn.out.st.ps).mono ?_
 rw[n2,if_neg Bool.false_ne_true]
 rintro r V ⟨rfl,hq⟩
 have HF2:=hide (HFn.out.rd hq)
 clear hq HFn
 go_wp2_with fail
 refine (l2got_any (⟨#[99,97,108,108]⟩:ByteArray) HF2.out.st.ps).mono ?_
 rw[n3,if_neg Bool.false_ne_true]
 rintro r V ⟨rfl,hq⟩
 have HF3:=hide (HF2.out.rd hq)
 clear hq HF2
 go_wp2_with fail
 refine (l2got_any (⟨#[103,114,105,100]⟩:ByteArray) HF3.out.st.ps).mono ?_
 rw[n4,if_neg Bool.false_ne_true]
 rintro r V ⟨rfl,hq⟩
 have HF4:=hide (HF3.out.rd hq)
 clear hq HF3
 go_wp2_with fail
 refine (l2got_any (⟨#[119,97,108,108]⟩:ByteArray) HF4.out.st.ps).mono ?_
 rw[n5,if_neg Bool.false_ne_true]
 rintro r V ⟨rfl,hq⟩
 have HF5:=hide (HF4.out.rd hq)
 clear hq HF4
 go_wp2_with fail
 refine (l2got_any (⟨#[111,112,101,110]⟩:ByteArray) HF5.out.st.ps).mono ?_
 rw[h1,if_pos rfl]
 rintro r V ⟨rfl,hq⟩
 have HG:=hide (HF5.out.rd hq)
 clear hq HF5
 have n0:=HG.out.nb.cell 0
 have nf0:=HG.out.nb.frozen 0
 simp only[List.getElem?_toArray,List.getElem?_cons_zero]at n0
 obtain⟨Vk,hVk⟩:∃W,World.setCell V ⟨O,0,none⟩ (.int .i64 9)=W:=⟨_,rfl⟩
 have HG1:=hide (HG.out.setK 9)
 rw[hVk]at HG1
 clear HG
 go_wp2_with fail
 refine (area_any HG1.out.st.ps hf).mono ?_
 rintro r V2 ⟨kv,rfl,hk,hq⟩
 rw[HXE.out]at hk hq
 have HG2:=hide (HG1.out.rd hq)
 have HK2:=hide (hk.lower HG1.out.bsz (fun g hg=>Nat.le_trans HG1.out.bsz hg))
 obtain⟨ka,kc,rfl⟩:=hk.slc
 clear hk hq HG1
 go_wp2_with fail
 refine (l2want_any (⟨#[59]⟩:ByteArray) HG2.out.st.ps).mono ?_
 rintro r Vw ⟨rfl,hq⟩
 have hSt:=HG2.out.rd hq
 have hKt:=HK2.out.rdF HG2.out hq
 have hlo:=hSt.lo
 have HPR:=hide ((hKt.mono (G':=fun g=>w.heap.size<g) (fun g hg _=>by omega)).pr (fun g hg=>by omega))
 have HOK:=hide (hSt.ok.mono (G':=fun g=>w.heap.size<g) (fun g hg _=>by omega))
 have m0:=hSt.nb.cell 0
 have m1:=hSt.nb.cell 1
 have m2:=hSt.nb.cell 2
 have m3:=hSt.nb.cell 3
 have m4:=hSt.nb.cell 4
 have m5:=hSt.nb.cell 5
 simp only[List.getElem?_toArray,List.getElem?_cons_succ,List.getElem?_cons_zero]at m0 m1 m2 m3 m4 m5
 have HSr:=hide hSt.st
 have hbf:=HBF.out
 clear hq hSt hKt hlo HG2 HK2
 go_wp2_with fail
 refine (l2node_any (m:=⟨ndK 9,.slice none 0 0,.slice none 0 0,.slice none 0 0⟩) (pl:=pl) (G:=fun g=>w.heap.size<g) (HOK.out) (HPR.out) (fun g hg=>Nat.lt_of_lt_of_le HSr.out.size hg) (by omega) (by have:=HKL.out;omega)).mono ?_
 rintro r Vz ⟨vt,vp,rfl,hv,hbz⟩
 have HF:=hide (HSr.out.below hbz)
 obtain⟨ga,gc,gb,gd,rfl,rfl,_,_⟩:=hv.slc
 have HV:=hide hv
 have r0:=HF.out.res.cell 0
 have r1:=HF.out.res.cell 1
 have f0:=HF.out.res.frozen 0
 have f1:=HF.out.res.frozen 1
 simp only[List.getElem?_toArray,List.getElem?_cons_succ,List.getElem?_cons_zero]at r0 r1
 clear hv hbz
 go_wp2_with fail
 refine bodyPost_ret (results_one rfl _ _ _ w.heap.size 45 _ (0,0) rfl ((HF.out.res.set 0 _).set 1 _) Tryz.underlying45 (by kernel_rfl)) rfl ?_
 exact HF.out.fin HV.out
set_option maxHeartbeats 8000000 in
set_option maxRecDepth 1000000 in
theorem stat_lane {w:World}{c:PsC}{e:PsE}{p:Ps}{f:Nat}(h:PsW w c e p)(hf:2*e.T.length+3≤f)(n0:e.is p (⟨#[105,102]⟩:ByteArray)=false)(n1:e.is p (⟨#[102,111,114]⟩:ByteArray)=false)(n2:e.is p (⟨#[108,101,116]⟩:ByteArray)=false)(n3:e.is p (⟨#[99,97,108,108]⟩:ByteArray)=false)(n4:e.is p (⟨#[103,114,105,100]⟩:ByteArray)=false)(n5:e.is p (⟨#[119,97,108,108]⟩:ByteArray)=false)(n6:e.is p (⟨#[111,112,101,110]⟩:ByteArray)=false)(h1:e.is p (⟨#[108,97,110,101]⟩:ByteArray)=true):
 Calls Tryz.prog 19 #[.pointer (some ⟨c.P,0,none⟩)] w (ExQ c e w (rFlat e f p)):=by
 have HS0:=hide (RSt.start h)
 have htl:=h.tl
 have hat:=h.at_
 have hpl:=PsE.place_le h
 have HPL:=hide (l2place_any (RSt.start h).ps)
 have hfi:=fi_le (e:=e) p
 have hnu:nu p≤1:=by unfold nu;split<;>omega
 have hBF:=(bd_flat e f p).len
 have HE:Hid (rFlat e f p=rEnd e { ndK 10 with n:=(rWay e (rArea e f p.on).2).1 } (e.place p) ((rArea e f p.on).1,(rWay e (rArea e f p.on).2).2)):=by
  show _=_
  unfold rFlat
  rw[if_neg (by rw[n2];exact Bool.false_ne_true),if_neg (by rw[n3];exact Bool.false_ne_true),if_neg (by rw[n4];exact Bool.false_ne_true),if_neg (by rw[n5];exact Bool.false_ne_true),if_neg (by rw[n6];exact Bool.false_ne_true),if_pos h1]
 obtain⟨W0,hW0⟩:∃W,w.alloc (.cells #[.slice none 0 0,.slice none 0 0] 45)=W:=⟨_,rfl⟩
 rw[hW0]at HS0 HPL
 obtain⟨pl,hplE⟩:∃q,e.place p=q:=⟨_,rfl⟩
 rw[hplE]at hpl HPL HE
 rw[HE.out]at hBF ⊢
 simp only[rEnd,ptN_len]at hBF
 have HBF:=hide hBF
 have HKL:Hid ((rArea e f p.on).1.length≤4):=area_le4 e f p.on
 clear h hplE hBF
 obtain⟨X,hX⟩:∃X,rArea e f p.on=X:=⟨_,rfl⟩
 rw[hX]at HBF HKL ⊢
 have HXE:=hide hX
 clear hX
 go_enter Tryz.func19,Tryz.ntmps19
 go_wp2_with fail
 refine HPL.out.mono ?_
 rintro r V ⟨rfl,m0,rfl⟩
 have HS1:=hide (HS0.out.below (below_drewN (Below.refl _ _) m0))
 clear HPL hW0 HS0
 go_wp2_with fail
 refine (l2got_any (⟨#[105,102]⟩:ByteArray) HS1.out.ps).mono ?_
 rw[n0,if_neg Bool.false_ne_true]
 rintro r V ⟨rfl,hq⟩
 have HSa:=hide (HS1.out.rd hq)
 clear hq HS1
 go_wp2_with fail
 refine (l2got_any (⟨#[102,111,114]⟩:ByteArray) HSa.out.ps).mono ?_
 rw[n1,if_neg Bool.false_ne_true]
 rintro r V ⟨rfl,hq⟩
 have HSb:=hide (HSa.out.rd hq)
 clear hq HSa
 obtain⟨Va,hVa⟩:∃W,V.alloc (.cells #[.int .i64 0,.int .i64 0,.slice none 0 0,.slice none 0 0,.slice none 0 0,.int .i64 0] 51)=W:=⟨_,rfl⟩
 have hFn:=FSt.start HSb.out
 rw[hVa]at hFn
 have hOb:Blk Va V.heap.size 51 #[.int .i64 0,.int .i64 0,.slice none 0 0,.slice none 0 0,.slice none 0 0,.int .i64 0]:=by rw[← hVa];exact Blk.new _ _ _
 have o0:=hOb.cell 0
 have of0:=hOb.frozen 0
 have o1:=hOb.cell 1
 have of1:=hOb.frozen 1
 have o2:=hOb.cell 2
 have of2:=hOb.frozen 2
 have o3:=hOb.cell 3
 have of3:=hOb.frozen 3
 have o4:=hOb.cell 4
 have of4:=hOb.frozen 4
 have o5:=hOb.cell 5
 have of5:=hOb.frozen 5
 simp only[List.getElem?_toArray,List.getElem?_cons_succ,List.getElem?_cons_zero]at o0 o1 o2 o3 o4 o5
 obtain⟨Vb,hVb⟩:∃W,set6w Va V.heap.size (.int .i64 0) (.int .i64 0) (.slice none 0 0) (.slice none 0 0) (.slice none 0 0) (.int .i64 0)=W:=⟨_,rfl⟩
 rw[hVb]at hFn
 unfold set6w at hVb
 have HFn:=hide hFn
 clear hFn hOb HSb
 go_wp2_with fail
 obtain⟨O,hO⟩:∃O,V.heap.size=O:=⟨_,rfl⟩
 rw[hO]at HFn ⊢
 clear hO hVa hVb o0 of0 o1 of1 o2 of2 o3 of3 o4 of4 o5 of5
 refine (l2got_any (⟨#[108,101,116]⟩:ByteArray) HFn.out.st.ps).mono ?_
 rw[n2,if_neg Bool.false_ne_true]
 rintro r V ⟨rfl,hq⟩
 have HF2:=hide (HFn.out.rd hq)
 clear hq HFn
 go_wp2_with fail
 refine (l2got_any (⟨#[99,97,108,108]⟩:ByteArray) HF2.out.st.ps).mono ?_
 rw[n3,if_neg Bool.false_ne_true]
 rintro r V ⟨rfl,hq⟩
 have HF3:=hide (HF2.out.rd hq)
 clear hq HF2
 go_wp2_with fail
 refine (l2got_any (⟨#[103,114,105,100]⟩:ByteArray) HF3.out.st.ps).mono ?_
 rw[n4,if_neg Bool.false_ne_true]
 rintro r V ⟨rfl,hq⟩
 have HF4:=hide (HF3.out.rd hq)
 clear hq HF3
 go_wp2_with fail
 refine (l2got_any (⟨#[119,97,108,108]⟩:ByteArray) HF4.out.st.ps).mono ?_
 rw[n5,if_neg Bool.false_ne_true]
 rintro r V ⟨rfl,hq⟩
 have HF5:=hide (HF4.out.rd hq)
 clear hq HF4
 go_wp2_with fail
 refine (l2got_any (⟨#[111,112,101,110]⟩:ByteArray) HF5.out.st.ps).mono ?_
 rw[n6,if_neg Bool.false_ne_true]
 rintro r V ⟨rfl,hq⟩
 have HF6:=hide (HF5.out.rd hq)
 clear hq HF5
 go_wp2_with fail
 refine (l2got_any (⟨#[108,97,110,101]⟩:ByteArray) HF6.out.st.ps).mono ?_
 rw[h1,if_pos rfl]
 rintro r V ⟨rfl,hq⟩
 have HG:=hide (HF6.out.rd hq)
 clear hq HF6
 have n0:=HG.out.nb.cell 0
 have nf0:=HG.out.nb.frozen 0
 simp only[List.getElem?_toArray,List.getElem?_cons_zero]at n0
 obtain⟨Vk,hVk⟩:∃W,World.setCell V ⟨O,0,none⟩ (.int .i64 10)=W:=⟨_,rfl⟩
 have HG1:=hide (HG.out.setK 10)
 rw[hVk]at HG1
 clear HG
 go_wp2_with fail
 refine (area_any HG1.out.st.ps hf).mono ?_
 rintro r V2 ⟨kv,rfl,hk,hq⟩
 rw[HXE.out]at hk hq
 have HG2:=hide (HG1.out.rd hq)
 have HK2:=hide (hk.lower HG1.out.bsz (fun g hg=>Nat.le_trans HG1.out.bsz hg))
 obtain⟨ka,kc,rfl⟩:=hk.slc
 clear hk hq HG1
 go_wp2_with fail
 refine (way_any HG2.out.st.ps).mono ?_
 rintro r V3 ⟨rfl,hq⟩
 have hSw:=HG2.out.rd hq
 have hKw:=HK2.out.rdF HG2.out hq
 have n1:=hSw.nb.cell 1
 have nf1:=hSw.nb.frozen 1
 simp only[List.getElem?_toArray,List.getElem?_cons_succ,List.getElem?_cons_zero]at n1
 obtain⟨V3n,hV3n⟩:∃W,World.setCell V3 ⟨O,1,none⟩ (.int .i64 ((rWay e X.2).1:Nat))=W:=⟨_,rfl⟩
 have HG3:=hide (hSw.setN ((rWay e X.2).1:Nat))
 have HK3:=hide (hKw.setO (i:=1) (x:=.int .i64 ((rWay e X.2).1:Nat)) hSw.lo.2.1)
 rw[hV3n]at HG3 HK3
 clear hSw hKw hq HG2 HK2
 go_wp2_with fail
 refine (l2want_any (⟨#[59]⟩:ByteArray) HG3.out.st.ps).mono ?_
 rintro r Vw ⟨rfl,hq⟩
 have hSt:=HG3.out.rd hq
 have hKt:=HK3.out.rdF HG3.out hq
 have hlo:=hSt.lo
 have HPR:=hide ((hKt.mono (G':=fun g=>w.heap.size<g) (fun g hg _=>by omega)).pr (fun g hg=>by omega))
 have HOK:=hide (hSt.ok.mono (G':=fun g=>w.heap.size<g) (fun g hg _=>by omega))
 have m0:=hSt.nb.cell 0
 have m1:=hSt.nb.cell 1
 have m2:=hSt.nb.cell 2
 have m3:=hSt.nb.cell 3
 have m4:=hSt.nb.cell 4
 have m5:=hSt.nb.cell 5
 simp only[List.getElem?_toArray,List.getElem?_cons_succ,List.getElem?_cons_zero]at m0 m1 m2 m3 m4 m5
 have HSr:=hide hSt.st
 have hbf:=HBF.out
 clear hq hSt hKt hlo HG3 HK3
 go_wp2_with fail
 refine (l2node_any (m:=⟨{ ndK 10 with n:=((rWay e X.2).1:Nat) },.slice none 0 0,.slice none 0 0,.slice none 0 0⟩) (pl:=pl) (G:=fun g=>w.heap.size<g) (HOK.out) (HPR.out) (fun g hg=>Nat.lt_of_lt_of_le HSr.out.size hg) (by omega) (by have:=HKL.out;omega)).mono ?_
 rintro r Vz ⟨vt,vp,rfl,hv,hbz⟩
 have HF:=hide (HSr.out.below hbz)
 obtain⟨ga,gc,gb,gd,rfl,rfl,_,_⟩:=hv.slc
 have HV:=hide hv
 have r0:=HF.out.res.cell 0
 have r1:=HF.out.res.cell 1
 have f0:=HF.out.res.frozen 0
 have f1:=HF.out.res.frozen 1
 simp only[List.getElem?_toArray,List.getElem?_cons_succ,List.getElem?_cons_zero]at r0 r1
 clear hv hbz
 go_wp2_with fail
 refine bodyPost_ret (results_one rfl _ _ _ w.heap.size 45 _ (0,0) rfl ((HF.out.res.set 0 _).set 1 _) Tryz.underlying45 (by kernel_rfl)) rfl ?_
 exact HF.out.fin HV.out
set_option maxHeartbeats 8000000 in
set_option maxRecDepth 1000000 in
theorem stat_gate {w:World}{c:PsC}{e:PsE}{p:Ps}{f:Nat}(h:PsW w c e p)(hf:2*e.T.length+3≤f)(n0:e.is p (⟨#[105,102]⟩:ByteArray)=false)(n1:e.is p (⟨#[102,111,114]⟩:ByteArray)=false)(n2:e.is p (⟨#[108,101,116]⟩:ByteArray)=false)(n3:e.is p (⟨#[99,97,108,108]⟩:ByteArray)=false)(n4:e.is p (⟨#[103,114,105,100]⟩:ByteArray)=false)(n5:e.is p (⟨#[119,97,108,108]⟩:ByteArray)=false)(n6:e.is p (⟨#[111,112,101,110]⟩:ByteArray)=false)(n7:e.is p (⟨#[108,97,110,101]⟩:ByteArray)=false)(h1:e.is p (⟨#[103,97,116,101]⟩:ByteArray)=true):
 Calls Tryz.prog 19 #[.pointer (some ⟨c.P,0,none⟩)] w (ExQ c e w (rFlat e f p)):=by
 have HS0:=hide (RSt.start h)
 have htl:=h.tl
 have hat:=h.at_
 have hpl:=PsE.place_le h
 have HPL:=hide (l2place_any (RSt.start h).ps)
 have hfi:=fi_le (e:=e) p
 have hnu:nu p≤1:=by unfold nu;split<;>omega
 have hBF:=(bd_flat e f p).len
 have HE:Hid (rFlat e f p=rEnd e { ndK 11 with n:=(rWay e (rCell e f p.on).2).1 } (e.place p) ((rCell e f p.on).1,(rWay e (rCell e f p.on).2).2)):=by
  show _=_
  unfold rFlat
  rw[if_neg (by rw[n2];exact Bool.false_ne_true),if_neg (by rw[n3];exact Bool.false_ne_true),if_neg (by rw[n4];exact Bool.false_ne_true),if_neg (by rw[n5];exact Bool.false_ne_true),if_neg (by rw[n6];exact Bool.false_ne_true),if_neg (by rw[n7];exact Bool.false_ne_true),if_pos h1]
 obtain⟨W0,hW0⟩:∃W,w.alloc (.cells #[.slice none 0 0,.slice none 0 0] 45)=W:=⟨_,rfl⟩
 rw[hW0]at HS0 HPL
 obtain⟨pl,hplE⟩:∃q,e.place p=q:=⟨_,rfl⟩
 rw[hplE]at hpl HPL HE
 rw[HE.out]at hBF ⊢
 simp only[rEnd,ptN_len]at hBF
 have HBF:=hide hBF
 have HKL:Hid ((rCell e f p.on).1.length≤4):=cell_le4 e f p.on
 clear h hplE hBF
 obtain⟨X,hX⟩:∃X,rCell e f p.on=X:=⟨_,rfl⟩
 rw[hX]at HBF HKL ⊢
 have HXE:=hide hX
 clear hX
 go_enter Tryz.func19,Tryz.ntmps19
 go_wp2_with fail
 refine HPL.out.mono ?_
 rintro r V ⟨rfl,m0,rfl⟩
 have HS1:=hide (HS0.out.below (below_drewN (Below.refl _ _) m0))
 clear HPL hW0 HS0
 go_wp2_with fail
 refine (l2got_any (⟨#[105,102]⟩:ByteArray) HS1.out.ps).mono ?_
 rw[n0,if_neg Bool.false_ne_true]
 rintro r V ⟨rfl,hq⟩
 have HSa:=hide (HS1.out.rd hq)
 clear hq HS1
 go_wp2_with fail
 refine (l2got_any (⟨#[102,111,114]⟩:ByteArray) HSa.out.ps).mono ?_
 rw[n1,if_neg Bool.false_ne_true]
 rintro r V ⟨rfl,hq⟩
 have HSb:=hide (HSa.out.rd hq)
 clear hq HSa
 obtain⟨Va,hVa⟩:∃W,V.alloc (.cells #[.int .i64 0,.int .i64 0,.slice none 0 0,.slice none 0 0,.slice none 0 0,.int .i64 0] 51)=W:=⟨_,rfl⟩
 have hFn:=FSt.start HSb.out
 rw[hVa]at hFn
 have hOb:Blk Va V.heap.size 51 #[.int .i64 0,.int .i64 0,.slice none 0 0,.slice none 0 0,.slice none 0 0,.int .i64 0]:=by rw[← hVa];exact Blk.new _ _ _
 have o0:=hOb.cell 0
 have of0:=hOb.frozen 0
 have o1:=hOb.cell 1
 have of1:=hOb.frozen 1
 have o2:=hOb.cell 2
 have of2:=hOb.frozen 2
 have o3:=hOb.cell 3
 have of3:=hOb.frozen 3
 have o4:=hOb.cell 4
 have of4:=hOb.frozen 4
 have o5:=hOb.cell 5
 have of5:=hOb.frozen 5
 simp only[List.getElem?_toArray,List.getElem?_cons_succ,List.getElem?_cons_zero]at o0 o1 o2 o3 o4 o5
 obtain⟨Vb,hVb⟩:∃W,set6w Va V.heap.size (.int .i64 0) (.int .i64 0) (.slice none 0 0) (.slice none 0 0) (.slice none 0 0) (.int .i64 0)=W:=⟨_,rfl⟩
 rw[hVb]at hFn
 unfold set6w at hVb
 have HFn:=hide hFn
 clear hFn hOb HSb
 go_wp2_with fail
 obtain⟨O,hO⟩:∃O,V.heap.size=O:=⟨_,rfl⟩
 rw[hO]at HFn ⊢
 clear hO hVa hVb o0 of0 o1 of1 o2 of2 o3 of3 o4 of4 o5 of5
 refine (l2got_any (⟨#[108,101,116]⟩:ByteArray) HFn.out.st.ps).mono ?_
 rw[n2,if_neg Bool.false_ne_true]
 rintro r V ⟨rfl,hq⟩
 have HF2:=hide (HFn.out.rd hq)
 clear hq HFn
 go_wp2_with fail
 refine (l2got_any (⟨#[99,97,108,108]⟩:ByteArray) HF2.out.st.ps).mono ?_
 rw[n3,if_neg Bool.false_ne_true]
 rintro r V ⟨rfl,hq⟩
 have HF3:=hide (HF2.out.rd hq)
 clear hq HF2
 go_wp2_with fail
 refine (l2got_any (⟨#[103,114,105,100]⟩:ByteArray) HF3.out.st.ps).mono ?_
 rw[n4,if_neg Bool.false_ne_true]
 rintro r V ⟨rfl,hq⟩
 have HF4:=hide (HF3.out.rd hq)
 clear hq HF3
 go_wp2_with fail
 refine (l2got_any (⟨#[119,97,108,108]⟩:ByteArray) HF4.out.st.ps).mono ?_
 rw[n5,if_neg Bool.false_ne_true]
 rintro r V ⟨rfl,hq⟩
 have HF5:=hide (HF4.out.rd hq)
 clear hq HF4
 go_wp2_with fail
 refine (l2got_any (⟨#[111,112,101,110]⟩:ByteArray) HF5.out.st.ps).mono ?_
 rw[n6,if_neg Bool.false_ne_true]
 rintro r V ⟨rfl,hq⟩
 have HF6:=hide (HF5.out.rd hq)
 clear hq HF5
 go_wp2_with fail
 refine (l2got_any (⟨#[108,97,110,101]⟩:ByteArray) HF6.out.st.ps).mono ?_
 rw[n7,if_neg Bool.false_ne_true]
 rintro r V ⟨rfl,hq⟩
 have HF7:=hide (HF6.out.rd hq)
 clear hq HF6
 go_wp2_with fail
 refine (l2got_any (⟨#[103,97,116,101]⟩:ByteArray) HF7.out.st.ps).mono ?_
 rw[h1,if_pos rfl]
 rintro r V ⟨rfl,hq⟩
 have HG:=hide (HF7.out.rd hq)
 clear hq HF7
 have n0:=HG.out.nb.cell 0
 have nf0:=HG.out.nb.frozen 0
 simp only[List.getElem?_toArray,List.getElem?_cons_zero]at n0
 obtain⟨Vk,hVk⟩:∃W,World.setCell V ⟨O,0,none⟩ (.int .i64 11)=W:=⟨_,rfl⟩
 have HG1:=hide (HG.out.setK 11)
 rw[hVk]at HG1
 clear HG
 go_wp2_with fail
 refine (cell_any HG1.out.st.ps hf).mono ?_
 rintro r V2 ⟨kv,rfl,hk,hq⟩
 rw[HXE.out]at hk hq
 have HG2:=hide (HG1.out.rd hq)
 have HK2:=hide (hk.lower HG1.out.bsz (fun g hg=>Nat.le_trans HG1.out.bsz hg))
 obtain⟨ka,kc,rfl⟩:=hk.slc
 clear hk hq HG1
 go_wp2_with fail
 refine (way_any HG2.out.st.ps).mono ?_
 rintro r V3 ⟨rfl,hq⟩
 have hSw:=HG2.out.rd hq
 have hKw:=HK2.out.rdF HG2.out hq
 have n1:=hSw.nb.cell 1
 have nf1:=hSw.nb.frozen 1
 simp only[List.getElem?_toArray,List.getElem?_cons_succ,List.getElem?_cons_zero]at n1
 obtain⟨V3n,hV3n⟩:∃W,World.setCell V3 ⟨O,1,none⟩ (.int .i64 ((rWay e X.2).1:Nat))=W:=⟨_,rfl⟩
 have HG3:=hide (hSw.setN ((rWay e X.2).1:Nat))
 have HK3:=hide (hKw.setO (i:=1) (x:=.int .i64 ((rWay e X.2).1:Nat)) hSw.lo.2.1)
 rw[hV3n]at HG3 HK3
 clear hSw hKw hq HG2 HK2
 go_wp2_with fail
 refine (l2want_any (⟨#[59]⟩:ByteArray) HG3.out.st.ps).mono ?_
 rintro r Vw ⟨rfl,hq⟩
 have hSt:=HG3.out.rd hq
 have hKt:=HK3.out.rdF HG3.out hq
 have hlo:=hSt.lo
 have HPR:=hide ((hKt.mono (G':=fun g=>w.heap.size<g) (fun g hg _=>by omega)).pr (fun g hg=>by omega))
 have HOK:=hide (hSt.ok.mono (G':=fun g=>w.heap.size<g) (fun g hg _=>by omega))
 have m0:=hSt.nb.cell 0
 have m1:=hSt.nb.cell 1
 have m2:=hSt.nb.cell 2
 have m3:=hSt.nb.cell 3
 have m4:=hSt.nb.cell 4
 have m5:=hSt.nb.cell 5
 simp only[List.getElem?_toArray,List.getElem?_cons_succ,List.getElem?_cons_zero]at m0 m1 m2 m3 m4 m5
 have HSr:=hide hSt.st
 have hbf:=HBF.out
 clear hq hSt hKt hlo HG3 HK3
 go_wp2_with fail
 refine (l2node_any (m:=⟨{ ndK 11 with n:=((rWay e X.2).1:Nat) },.slice none 0 0,.slice none 0 0,.slice none 0 0⟩) (pl:=pl) (G:=fun g=>w.heap.size<g) (HOK.out) (HPR.out) (fun g hg=>Nat.lt_of_lt_of_le HSr.out.size hg) (by omega) (by have:=HKL.out;omega)).mono ?_
 rintro r Vz ⟨vt,vp,rfl,hv,hbz⟩
 have HF:=hide (HSr.out.below hbz)
 obtain⟨ga,gc,gb,gd,rfl,rfl,_,_⟩:=hv.slc
 have HV:=hide hv
 have r0:=HF.out.res.cell 0
 have r1:=HF.out.res.cell 1
 have f0:=HF.out.res.frozen 0
 have f1:=HF.out.res.frozen 1
 simp only[List.getElem?_toArray,List.getElem?_cons_succ,List.getElem?_cons_zero]at r0 r1
 clear hv hbz
 go_wp2_with fail
 refine bodyPost_ret (results_one rfl _ _ _ w.heap.size 45 _ (0,0) rfl ((HF.out.res.set 0 _).set 1 _) Tryz.underlying45 (by kernel_rfl)) rfl ?_
 exact HF.out.fin HV.out
set_option maxHeartbeats 8000000 in
set_option maxRecDepth 1000000 in
theorem stat_bar {w:World}{c:PsC}{e:PsE}{p:Ps}{f:Nat}(h:PsW w c e p)(hf:2*e.T.length+3≤f)(n0:e.is p (⟨#[105,102]⟩:ByteArray)=false)(n1:e.is p (⟨#[102,111,114]⟩:ByteArray)=false)(n2:e.is p (⟨#[108,101,116]⟩:ByteArray)=false)(n3:e.is p (⟨#[99,97,108,108]⟩:ByteArray)=false)(n4:e.is p (⟨#[103,114,105,100]⟩:ByteArray)=false)(n5:e.is p (⟨#[119,97,108,108]⟩:ByteArray)=false)(n6:e.is p (⟨#[111,112,101,110]⟩:ByteArray)=false)(n7:e.is p (⟨#[108,97,110,101]⟩:ByteArray)=false)(n8:e.is p (⟨#[103,97,116,101]⟩:ByteArray)=false)(h1:e.is p (⟨#[98,97,114]⟩:ByteArray)=true):
 Calls Tryz.prog 19 #[.pointer (some ⟨c.P,0,none⟩)] w (ExQ c e w (rFlat e f p)):=by
 have HS0:=hide (RSt.start h)
 have htl:=h.tl
 have hat:=h.at_
 have hpl:=PsE.place_le h
 have HPL:=hide (l2place_any (RSt.start h).ps)
 have hfi:=fi_le (e:=e) p
 have hnu:nu p≤1:=by unfold nu;split<;>omega
 have hBF:=(bd_flat e f p).len
 have HE:Hid (rFlat e f p=rEnd e { ndK 12 with n:=(rWay e (rCell e f p.on).2).1 } (e.place p) ((rCell e f p.on).1,(rWay e (rCell e f p.on).2).2)):=by
  show _=_
  unfold rFlat
  rw[if_neg (by rw[n2];exact Bool.false_ne_true),if_neg (by rw[n3];exact Bool.false_ne_true),if_neg (by rw[n4];exact Bool.false_ne_true),if_neg (by rw[n5];exact Bool.false_ne_true),if_neg (by rw[n6];exact Bool.false_ne_true),if_neg (by rw[n7];exact Bool.false_ne_true),if_neg (by rw[n8];exact Bool.false_ne_true),if_pos h1]
 obtain⟨W0,hW0⟩:∃W,w.alloc (.cells #[.slice none 0 0,.slice none 0 0] 45)=W:=⟨_,rfl⟩
 rw[hW0]at HS0 HPL
 obtain⟨pl,hplE⟩:∃q,e.place p=q:=⟨_,rfl⟩
 rw[hplE]at hpl HPL HE
 rw[HE.out]at hBF ⊢
 simp only[rEnd,ptN_len]at hBF
 have HBF:=hide hBF
 have HKL:Hid ((rCell e f p.on).1.length≤4):=cell_le4 e f p.on
 clear h hplE hBF
 obtain⟨X,hX⟩:∃X,rCell e f p.on=X:=⟨_,rfl⟩
 rw[hX]at HBF HKL ⊢
 have HXE:=hide hX
 clear hX
 go_enter Tryz.func19,Tryz.ntmps19
 go_wp2_with fail
 refine HPL.out.mono ?_
 rintro r V ⟨rfl,m0,rfl⟩
 have HS1:=hide (HS0.out.below (below_drewN (Below.refl _ _) m0))
 clear HPL hW0 HS0
 go_wp2_with fail
 refine (l2got_any (⟨#[105,102]⟩:ByteArray) HS1.out.ps).mono ?_
 rw[n0,if_neg Bool.false_ne_true]
 rintro r V ⟨rfl,hq⟩
 have HSa:=hide (HS1.out.rd hq)
 clear hq HS1
 go_wp2_with fail
 refine (l2got_any (⟨#[102,111,114]⟩:ByteArray) HSa.out.ps).mono ?_
 rw[n1,if_neg Bool.false_ne_true]
 rintro r V ⟨rfl,hq⟩
 have HSb:=hide (HSa.out.rd hq)
 clear hq HSa
 obtain⟨Va,hVa⟩:∃W,V.alloc (.cells #[.int .i64 0,.int .i64 0,.slice none 0 0,.slice none 0 0,.slice none 0 0,.int .i64 0] 51)=W:=⟨_,rfl⟩
 have hFn:=FSt.start HSb.out
 rw[hVa]at hFn
 have hOb:Blk Va V.heap.size 51 #[.int .i64 0,.int .i64 0,.slice none 0 0,.slice none 0 0,.slice none 0 0,.int .i64 0]:=by rw[← hVa];exact Blk.new _ _ _
 have o0:=hOb.cell 0
 have of0:=hOb.frozen 0
 have o1:=hOb.cell 1
 have of1:=hOb.frozen 1
 have o2:=hOb.cell 2
 have of2:=hOb.frozen 2
 have o3:=hOb.cell 3
 have of3:=hOb.frozen 3
 have o4:=hOb.cell 4
 have of4:=hOb.frozen 4
 have o5:=hOb.cell 5
 have of5:=hOb.frozen 5
 simp only[List.getElem?_toArray,List.getElem?_cons_succ,List.getElem?_cons_zero]at o0 o1 o2 o3 o4 o5
 obtain⟨Vb,hVb⟩:∃W,set6w Va V.heap.size (.int .i64 0) (.int .i64 0) (.slice none 0 0) (.slice none 0 0) (.slice none 0 0) (.int .i64 0)=W:=⟨_,rfl⟩
 rw[hVb]at hFn
 unfold set6w at hVb
 have HFn:=hide hFn
 clear hFn hOb HSb
 go_wp2_with fail
 obtain⟨O,hO⟩:∃O,V.heap.size=O:=⟨_,rfl⟩
 rw[hO]at HFn ⊢
 clear hO hVa hVb o0 of0 o1 of1 o2 of2 o3 of3 o4 of4 o5 of5
 refine (l2got_any (⟨#[108,101,116]⟩:ByteArray) HFn.out.st.ps).mono ?_
 rw[n2,if_neg Bool.false_ne_true]
 rintro r V ⟨rfl,hq⟩
 have HF2:=hide (HFn.out.rd hq)
 clear hq HFn
 go_wp2_with fail
 refine (l2got_any (⟨#[99,97,108,108]⟩:ByteArray) HF2.out.st.ps).mono ?_
 rw[n3,if_neg Bool.false_ne_true]
 rintro r V ⟨rfl,hq⟩
 have HF3:=hide (HF2.out.rd hq)
 clear hq HF2
 go_wp2_with fail
 refine (l2got_any (⟨#[103,114,105,100]⟩:ByteArray) HF3.out.st.ps).mono ?_
 rw[n4,if_neg Bool.false_ne_true]
 rintro r V ⟨rfl,hq⟩
 have HF4:=hide (HF3.out.rd hq)
 clear hq HF3
 go_wp2_with fail
 refine (l2got_any (⟨#[119,97,108,108]⟩:ByteArray) HF4.out.st.ps).mono ?_
 rw[n5,if_neg Bool.false_ne_true]
 rintro r V ⟨rfl,hq⟩
 have HF5:=hide (HF4.out.rd hq)
 clear hq HF4
 go_wp2_with fail
 refine (l2got_any (⟨#[111,112,101,110]⟩:ByteArray) HF5.out.st.ps).mono ?_
 rw[n6,if_neg Bool.false_ne_true]
 rintro r V ⟨rfl,hq⟩
 have HF6:=hide (HF5.out.rd hq)
 clear hq HF5
 go_wp2_with fail
 refine (l2got_any (⟨#[108,97,110,101]⟩:ByteArray) HF6.out.st.ps).mono ?_
 rw[n7,if_neg Bool.false_ne_true]
 rintro r V ⟨rfl,hq⟩
 have HF7:=hide (HF6.out.rd hq)
 clear hq HF6
 go_wp2_with fail
 refine (l2got_any (⟨#[103,97,116,101]⟩:ByteArray) HF7.out.st.ps).mono ?_
 rw[n8,if_neg Bool.false_ne_true]
 rintro r V ⟨rfl,hq⟩
 have HF8:=hide (HF7.out.rd hq)
 clear hq HF7
 go_wp2_with fail
 refine (l2got_any (⟨#[98,97,114]⟩:ByteArray) HF8.out.st.ps).mono ?_
 rw[h1,if_pos rfl]
 rintro r V ⟨rfl,hq⟩
 have HG:=hide (HF8.out.rd hq)
 clear hq HF8
 have n0:=HG.out.nb.cell 0
 have nf0:=HG.out.nb.frozen 0
 simp only[List.getElem?_toArray,List.getElem?_cons_zero]at n0
 obtain⟨Vk,hVk⟩:∃W,World.setCell V ⟨O,0,none⟩ (.int .i64 12)=W:=⟨_,rfl⟩
 have HG1:=hide (HG.out.setK 12)
 rw[hVk]at HG1
 clear HG
 go_wp2_with fail
 refine (cell_any HG1.out.st.ps hf).mono ?_
 rintro r V2 ⟨kv,rfl,hk,hq⟩
 rw[HXE.out]at hk hq
 have HG2:=hide (HG1.out.rd hq)
 have HK2:=hide (hk.lower HG1.out.bsz (fun g hg=>Nat.le_trans HG1.out.bsz hg))
 obtain⟨ka,kc,rfl⟩:=hk.slc
 clear hk hq HG1
 go_wp2_with fail
 refine (way_any HG2.out.st.ps).mono ?_
 rintro r V3 ⟨rfl,hq⟩
 have hSw:=HG2.out.rd hq
 have hKw:=HK2.out.rdF HG2.out hq
 have n1:=hSw.nb.cell 1
 have nf1:=hSw.nb.frozen 1
 simp only[List.getElem?_toArray,List.getElem?_cons_succ,List.getElem?_cons_zero]at n1
 obtain⟨V3n,hV3n⟩:∃W,World.setCell V3 ⟨O,1,none⟩ (.int .i64 ((rWay e X.2).1:Nat))=W:=⟨_,rfl⟩
 have HG3:=hide (hSw.setN ((rWay e X.2).1:Nat))
 have HK3:=hide (hKw.setO (i:=1) (x:=.int .i64 ((rWay e X.2).1:Nat)) hSw.lo.2.1)
 rw[hV3n]at HG3 HK3
 clear hSw hKw hq HG2 HK2
 go_wp2_with fail
 refine (l2want_any (⟨#[59]⟩:ByteArray) HG3.out.st.ps).mono ?_
 rintro r Vw ⟨rfl,hq⟩
 have hSt:=HG3.out.rd hq
 have hKt:=HK3.out.rdF HG3.out hq
 have hlo:=hSt.lo
 have HPR:=hide ((hKt.mono (G':=fun g=>w.heap.size<g) (fun g hg _=>by omega)).pr (fun g hg=>by omega))
 have HOK:=hide (hSt.ok.mono (G':=fun g=>w.heap.size<g) (fun g hg _=>by omega))
 have m0:=hSt.nb.cell 0
 have m1:=hSt.nb.cell 1
 have m2:=hSt.nb.cell 2
 have m3:=hSt.nb.cell 3
 have m4:=hSt.nb.cell 4
 have m5:=hSt.nb.cell 5
 simp only[List.getElem?_toArray,List.getElem?_cons_succ,List.getElem?_cons_zero]at m0 m1 m2 m3 m4 m5
 have HSr:=hide hSt.st
 have hbf:=HBF.out
 clear hq hSt hKt hlo HG3 HK3
 go_wp2_with fail
 refine (l2node_any (m:=⟨{ ndK 12 with n:=((rWay e X.2).1:Nat) },.slice none 0 0,.slice none 0 0,.slice none 0 0⟩) (pl:=pl) (G:=fun g=>w.heap.size<g) (HOK.out) (HPR.out) (fun g hg=>Nat.lt_of_lt_of_le HSr.out.size hg) (by omega) (by have:=HKL.out;omega)).mono ?_
 rintro r Vz ⟨vt,vp,rfl,hv,hbz⟩
 have HF:=hide (HSr.out.below hbz)
 obtain⟨ga,gc,gb,gd,rfl,rfl,_,_⟩:=hv.slc
 have HV:=hide hv
 have r0:=HF.out.res.cell 0
 have r1:=HF.out.res.cell 1
 have f0:=HF.out.res.frozen 0
 have f1:=HF.out.res.frozen 1
 simp only[List.getElem?_toArray,List.getElem?_cons_succ,List.getElem?_cons_zero]at r0 r1
 clear hv hbz
 go_wp2_with fail
 refine bodyPost_ret (results_one rfl _ _ _ w.heap.size 45 _ (0,0) rfl ((HF.out.res.set 0 _).set 1 _) Tryz.underlying45 (by kernel_rfl)) rfl ?_
 exact HF.out.fin HV.out
end Go.Proofs.YtbiakdjpeblclaaGreatDoor

/-
  The walk of l2fields, where a node bears nothing.
-/
import Derived.Test.YtbiakdjpeblclaaGreatDoorJPaVG0
import Derived.Test.YtbiakdjpeblclaaGreatDoorJPaVG4
import Derived.Test.YtbiakdjpeblclaaGreatDoorJPaVK2
import Derived.Test.YtbiakdjpeblclaaGreatDoorJPaLX
import Derived.Test.YtbiakdjpeblclaaGreatDoorJPaT
import Derived.Test.YtbiakdjpeblclaaGreatDoorJPaMK
import Derived.Maps.AppendAt
namespace Go.Proofs.YtbiakdjpeblclaaGreatDoor
open Go.RowKit
set_option maxHeartbeats 4000000 in
set_option maxRecDepth 1000000 in
theorem fields_o (K:Int)(N C:Int)(T:ByteArray)(M:List ByteArray)(Y:List Int)(vt vn vy:Value)(w:World)(h1:(K==1)=false)(h3:(K==3)=false)(h4:(K==4)=false)(h5:(K==5)=false)(h19:(K==19)=false)(h17:(K==17)=false)(h10:(K==10)=false)(h11:(K==11)=false)(h12:(K==12)=false)(h16:(K==16)=false)(h18:(K==18)=false)(h20:(K==20)=false)(h:NV w ⟨K,N,T,M,Y,C⟩ vt vn vy)(hb:NB ⟨K,N,T,M,Y,C⟩):
 Calls Tryz.prog 70 #[.agg #[.int .i64 K,.int .i64 N,vt,vn,vy,.int .i64 C]] w fun e w'=>e = .returned (.bool (vFd ⟨K,N,T,M,Y,C⟩))∧Below w.heap.size w w':=by
 obtain⟨W1,hW1⟩:∃W1,w.alloc (.cells #[.int .i64 K,.int .i64 N,vt,vn,vy,.int .i64 C] 51)=W1:=⟨_,rfl⟩
 have hB1:Below w.heap.size w W1:=by rw[← hW1];exact (Below.refl _ _).alloc (Nat.le_refl _) _
 have hBk:Blk W1 w.heap.size 51 #[.int .i64 K,.int .i64 N,vt,vn,vy,.int .i64 C]:=by rw[← hW1];exact Blk.new _ _ _
 have hnO:nOf ⟨K,N,T,M,Y,C⟩=0:=by show (if K=1 then 1+(Y.length:Int) else if K=3∨K=4∨K=5∨K=19 then 1 else 0)=0;rw[if_neg (beq_eq_false_iff_ne.1 h1),if_neg (by have:=beq_eq_false_iff_ne.1 h3;have:=beq_eq_false_iff_ne.1 h4;have:=beq_eq_false_iff_ne.1 h5;have:=beq_eq_false_iff_ne.1 h19;omega)]
 have hgN:gNk K=0:=by unfold gNk;rw[if_neg (by have:=beq_eq_false_iff_ne.1 h10;have:=beq_eq_false_iff_ne.1 h11;have:=beq_eq_false_iff_ne.1 h12;omega),if_neg (beq_eq_false_iff_ne.1 h16),if_neg (beq_eq_false_iff_ne.1 h18),if_neg (beq_eq_false_iff_ne.1 h20)]
 have HTX:Hid (vTx ⟨K,N,T,M,Y,C⟩=(T.size==0)):=by show _=_;unfold vTx;rw[if_neg (show ¬(K:Int)=17 from beq_eq_false_iff_ne.1 h17)]
 have HTY:Hid (vTy ⟨K,N,T,M,Y,C⟩=(Y.length==0)):=by show _=_;unfold vTy;rw[if_neg (show ¬(K:Int)=1 from beq_eq_false_iff_ne.1 h1)]
 have HNS:Hid (vNs ⟨K,N,T,M,Y,C⟩=(((M.length:Int)==0)&&M.all vNm)):=by show (((M.length:Int)==nOf ⟨K,N,T,M,Y,C⟩)&&M.all vNm)=_;rw[hnO]
 have HTXF:=hide (vfd_tx (d:=⟨K,N,T,M,Y,C⟩))
 have HTYF:=hide (vfd_ty (d:=⟨K,N,T,M,Y,C⟩))
 have HNSF:=hide (vfd_ns (d:=⟨K,N,T,M,Y,C⟩))
 have HLOF:=hide (vfd_lo (d:=⟨K,N,T,M,Y,C⟩))
 have HOKF:=hide (vfd_ok (d:=⟨K,N,T,M,Y,C⟩))
 simp only[hgN]at HOKF
 simp only at HLOF
 obtain⟨V,hV⟩:∃V,vFd ⟨K,N,T,M,Y,C⟩=V:=⟨_,rfl⟩
 rw[hV]at HTXF HTYF HNSF HLOF HOKF ⊢
 have HE:=hide hb.each
 have hyl:=hb.types
 have hml:=hb.names
 have htl:=hb.text
 obtain⟨ay,by_,oy,cy,hvy,hay,hcy⟩:=h.types
 obtain⟨an,bn,on,cn,hvn,han,hcn⟩:=h.names
 obtain⟨at_,bt,ot,ct,hvt,hat,hct⟩:=h.text
 simp only at hvy hvn hvt hay han hat hcy hcn hct hyl hml htl HE
 subst hvy hvn hvt
 have HC:=hide hcn
 have HW:=hide hW1
 have HB1:=hide hB1
 have HBK:=hide hBk
 have b0:=HBK.out.cell 0
 have b1:=HBK.out.cell 1
 have b2:=HBK.out.cell 2
 have b3:=HBK.out.cell 3
 have b4:=HBK.out.cell 4
 simp only[List.getElem?_toArray,List.getElem?_cons_succ,List.getElem?_cons_zero]at b0 b1 b2 b3 b4
 clear hW1 hB1 hBk hcy hct hcn hat hay h hb hnO hgN hV
 by_cases c1:Y.length≠0
 ·have e1:((Y.length:Int) != 0)=true:=by rw[bne_iff_ne];omega
  have HV:Hid (V=false):=HTYF.out (by rw[HTY.out,beq_eq_false_iff_ne];exact c1)
  clear c1
  go_enter Tryz.func70,Tryz.ntmps70
  go_wp2_with fail
  rw[HW.out]
  go_wp2
  all_goals go_ret
  all_goals exact⟨by rw[HV.out];rfl,HB1.out⟩
 have c1:Y.length=0:=by omega
 have HVY:Hid (vTy ⟨K,N,T,M,Y,C⟩=true):=by show _=_;rw[HTY.out,beq_iff_eq];exact c1
 have e1:((Y.length:Int) != 0)=false:=by rw[bne_eq_false_iff_eq];omega
 by_cases c2:M.length≠0
 ·have e2:((M.length:Int) != 0)=true:=by rw[bne_iff_ne];omega
  have HV:Hid (V=false):=HNSF.out (by rw[HNS.out,beq_eq_false_iff_ne.2 (show ¬(M.length:Int)=0 by omega),Bool.false_and])
  clear c1 c2
  go_enter Tryz.func70,Tryz.ntmps70
  go_wp2_with fail
  rw[HW.out]
  go_wp2
  all_goals go_ret
  all_goals exact⟨by rw[HV.out];rfl,HB1.out⟩
 have c2:M.length=0:=by omega
 have e2:((M.length:Int) != 0)=false:=by rw[bne_eq_false_iff_eq];omega
 have HNS2:Hid (vNs ⟨K,N,T,M,Y,C⟩=M.all vNm):=by show _=_;rw[HNS.out,beq_iff_eq.2 (show (M.length:Int)=0 by omega),Bool.true_and]
 have HQ:Hid (M.length=0):=c2
 clear c1 c2
 go_enter Tryz.func70,Tryz.ntmps70
 go_wp2_with fail
 rw[HW.out]
 go_wp2
 go_loopw [5] (fun ix wr=>∃k:Nat,k≤M.length∧ix = .int .i64 k∧(M.drop k).all vNm=M.all vNm∧Below w.heap.size w wr∧Below W1.heap.size W1 wr) (fun ix _=>M.length - (intOf ix).toNat)
 case atStart=>exact⟨0,Nat.zero_le _,rfl,rfl,HB1.out,Below.refl _ _⟩
 case round=>
  obtain⟨k,hk,rfl,hok,hb,hb1⟩:=hrel
  have HB:=hide hb
  have HBW:=hide hb1
  have q0:=cell_kept b0 hb1
  have q1:=cell_kept b1 hb1
  have q2:=cell_kept b2 hb1
  have q3:=cell_kept b3 hb1
  by_cases hlt:k<M.length
  ·have:=HQ.out;omega
  ·have hlq:decide ((k:Int)<0)=false:=decide_eq_false (by have:=HQ.out;omega)
   have HVN:Hid (vNs ⟨K,N,T,M,Y,C⟩=true):=by show _=_;rw[HNS2.out,← hok,show k=M.length by omega,List.drop_length];rfl
   clear hok hb hb1 hlt hk
   by_cases c3:T.size≠0
   ·have e3:((T.size:Int) != 0)=true:=by rw[bne_iff_ne];omega
    have HV:Hid (V=false):=HTXF.out (by rw[HTX.out,beq_eq_false_iff_ne];exact c3)
    clear c3
    go_wp2
    all_goals go_ret
    all_goals exact⟨by rw[HV.out];rfl,HB.out⟩
   have c3:T.size=0:=by omega
   have e3:((T.size:Int) != 0)=false:=by rw[bne_eq_false_iff_eq];omega
   have HVT:Hid (vTx ⟨K,N,T,M,Y,C⟩=true):=by show _=_;rw[HTX.out,beq_iff_eq];exact c3
   clear c3
   by_cases c4:0≤N
   ·have d4:decide ((0:Int)≤N)=true:=decide_eq_true c4
    have HV:Hid (V=decide (N≤0)):=HOKF.out HVT.out HVY.out HVN.out c4
    clear c4
    go_wp2
    all_goals go_ret
    all_goals exact⟨by rw[HV.out];rfl,HB.out⟩
   ·have d4:decide ((0:Int)≤N)=false:=decide_eq_false c4
    have HV:Hid (V=false):=HLOF.out (by omega)
    clear c4
    go_wp2
    all_goals go_ret
    all_goals exact⟨by rw[HV.out];rfl,HB.out⟩
set_option maxHeartbeats 4000000 in
set_option maxRecDepth 1000000 in
theorem fields_17 (N C:Int)(T:ByteArray)(M:List ByteArray)(Y:List Int)(vt vn vy:Value)(w:World)(h:NV w ⟨17,N,T,M,Y,C⟩ vt vn vy)(hb:NB ⟨17,N,T,M,Y,C⟩):
 Calls Tryz.prog 70 #[.agg #[.int .i64 17,.int .i64 N,vt,vn,vy,.int .i64 C]] w fun e w'=>e = .returned (.bool (vFd ⟨17,N,T,M,Y,C⟩))∧Below w.heap.size w w':=by
 obtain⟨W1,hW1⟩:∃W1,w.alloc (.cells #[.int .i64 17,.int .i64 N,vt,vn,vy,.int .i64 C] 51)=W1:=⟨_,rfl⟩
 have hB1:Below w.heap.size w W1:=by rw[← hW1];exact (Below.refl _ _).alloc (Nat.le_refl _) _
 have hBk:Blk W1 w.heap.size 51 #[.int .i64 17,.int .i64 N,vt,vn,vy,.int .i64 C]:=by rw[← hW1];exact Blk.new _ _ _
 have hnO:nOf ⟨17,N,T,M,Y,C⟩=0:=rfl
 have hgN:gNk 17=0:=rfl
 have HTX:Hid (vTx ⟨17,N,T,M,Y,C⟩=(decide (T.size≤60)&&decide ((chk T).1=0))):=by show _=_;unfold vTx;rw[if_pos rfl]
 have HTY:Hid (vTy ⟨17,N,T,M,Y,C⟩=(Y.length==0)):=by show _=_;unfold vTy;rw[if_neg (show ¬(17:Int)=1 from by decide)]
 have HNS:Hid (vNs ⟨17,N,T,M,Y,C⟩=(((M.length:Int)==0)&&M.all vNm)):=by show (((M.length:Int)==nOf ⟨17,N,T,M,Y,C⟩)&&M.all vNm)=_;rw[hnO]
 have HTXF:=hide (vfd_tx (d:=⟨17,N,T,M,Y,C⟩))
 have HTYF:=hide (vfd_ty (d:=⟨17,N,T,M,Y,C⟩))
 have HNSF:=hide (vfd_ns (d:=⟨17,N,T,M,Y,C⟩))
 have HLOF:=hide (vfd_lo (d:=⟨17,N,T,M,Y,C⟩))
 have HOKF:=hide (vfd_ok (d:=⟨17,N,T,M,Y,C⟩))
 simp only[hgN]at HOKF
 simp only at HLOF
 obtain⟨V,hV⟩:∃V,vFd ⟨17,N,T,M,Y,C⟩=V:=⟨_,rfl⟩
 rw[hV]at HTXF HTYF HNSF HLOF HOKF ⊢
 have HE:=hide hb.each
 have HGD:=hide (fun w2 (hb2:Below w.heap.size w w2)=>good_bs (w:=w2) hb.text (h.text.below hb2))
 have hyl:=hb.types
 have hml:=hb.names
 have htl:=hb.text
 obtain⟨ay,by_,oy,cy,hvy,hay,hcy⟩:=h.types
 obtain⟨an,bn,on,cn,hvn,han,hcn⟩:=h.names
 obtain⟨at_,bt,ot,ct,hvt,hat,hct⟩:=h.text
 simp only at HGD
 simp only at hvy hvn hvt hay han hat hcy hcn hct hyl hml htl HE
 subst hvy hvn hvt
 have HC:=hide hcn
 have HW:=hide hW1
 have HB1:=hide hB1
 have HBK:=hide hBk
 have b0:=HBK.out.cell 0
 have b1:=HBK.out.cell 1
 have b2:=HBK.out.cell 2
 have b3:=HBK.out.cell 3
 have b4:=HBK.out.cell 4
 simp only[List.getElem?_toArray,List.getElem?_cons_succ,List.getElem?_cons_zero]at b0 b1 b2 b3 b4
 clear hW1 hB1 hBk hcy hct hcn hat hay h hb hnO hgN hV
 by_cases c1:Y.length≠0
 ·have e1:((Y.length:Int) != 0)=true:=by rw[bne_iff_ne];omega
  have HV:Hid (V=false):=HTYF.out (by rw[HTY.out,beq_eq_false_iff_ne];exact c1)
  clear c1
  go_enter Tryz.func70,Tryz.ntmps70
  go_wp2_with fail
  rw[HW.out]
  go_wp2
  all_goals go_ret
  all_goals exact⟨by rw[HV.out];rfl,HB1.out⟩
 have c1:Y.length=0:=by omega
 have HVY:Hid (vTy ⟨17,N,T,M,Y,C⟩=true):=by show _=_;rw[HTY.out,beq_iff_eq];exact c1
 have e1:((Y.length:Int) != 0)=false:=by rw[bne_eq_false_iff_eq];omega
 by_cases c2:M.length≠0
 ·have e2:((M.length:Int) != 0)=true:=by rw[bne_iff_ne];omega
  have HV:Hid (V=false):=HNSF.out (by rw[HNS.out,beq_eq_false_iff_ne.2 (show ¬(M.length:Int)=0 by omega),Bool.false_and])
  clear c1 c2
  go_enter Tryz.func70,Tryz.ntmps70
  go_wp2_with fail
  rw[HW.out]
  go_wp2
  all_goals go_ret
  all_goals exact⟨by rw[HV.out];rfl,HB1.out⟩
 have c2:M.length=0:=by omega
 have e2:((M.length:Int) != 0)=false:=by rw[bne_eq_false_iff_eq];omega
 have HNS2:Hid (vNs ⟨17,N,T,M,Y,C⟩=M.all vNm):=by show _=_;rw[HNS.out,beq_iff_eq.2 (show (M.length:Int)=0 by omega),Bool.true_and]
 have HQ:Hid (M.length=0):=c2
 clear c1 c2
 go_enter Tryz.func70,Tryz.ntmps70
 go_wp2_with fail
 rw[HW.out]
 go_wp2
 go_loopw [5] (fun ix wr=>∃k:Nat,k≤M.length∧ix = .int .i64 k∧(M.drop k).all vNm=M.all vNm∧Below w.heap.size w wr∧Below W1.heap.size W1 wr) (fun ix _=>M.length - (intOf ix).toNat)
 case atStart=>exact⟨0,Nat.zero_le _,rfl,rfl,HB1.out,Below.refl _ _⟩
 case round=>
  obtain⟨k,hk,rfl,hok,hb,hb1⟩:=hrel
  have HB:=hide hb
  have HBW:=hide hb1
  have q0:=cell_kept b0 hb1
  have q1:=cell_kept b1 hb1
  have q2:=cell_kept b2 hb1
  have q3:=cell_kept b3 hb1
  by_cases hlt:k<M.length
  ·have:=HQ.out;omega
  ·have hlq:decide ((k:Int)<0)=false:=decide_eq_false (by have:=HQ.out;omega)
   have HVN:Hid (vNs ⟨17,N,T,M,Y,C⟩=true):=by show _=_;rw[HNS2.out,← hok,show k=M.length by omega,List.drop_length];rfl
   clear hok hb hb1 hlt hk
   by_cases c3:¬T.size≤60
   ·have e3:decide ((60:Int)<(T.size:Int))=true:=decide_eq_true (by omega)
    have HV:Hid (V=false):=HTXF.out (by rw[HTX.out,decide_eq_false c3,Bool.false_and])
    clear c3
    go_wp2
    all_goals go_ret
    all_goals exact⟨by rw[HV.out];rfl,HB.out⟩
   have e3:decide ((60:Int)<(T.size:Int))=false:=decide_eq_false (by omega)
   have HG:=hide (HGD.out wr HB.out)
   obtain⟨G,hG⟩:∃G,(chk T).1=G:=⟨_,rfl⟩
   rw[hG]at HG HTX
   rw[decide_eq_true (by omega),Bool.true_and]at HTX
   clear c3 hG
   by_cases c5:G≠0
   ·have e5:((G:Int)==0)=false:=by rw[beq_eq_false_iff_ne];omega
    have HV:Hid (V=false):=HTXF.out (by rw[HTX.out,decide_eq_false c5])
    rw[e5]at HG
    clear c5 e5
    go_wp2_with fail
    refine HG.out.mono ?_
    rintro e w5 ⟨rfl,hb5⟩
    have HB5:Hid (Below w.heap.size w w5):=HB.out.trans (hb5.mono HB.out.size)
    clear hb5
    go_wp2
    all_goals go_ret
    all_goals exact⟨by rw[HV.out];rfl,HB5.out⟩
   have c5:G=0:=by omega
   have HVT:Hid (vTx ⟨17,N,T,M,Y,C⟩=true):=by show _=_;rw[HTX.out,decide_eq_true c5]
   have e5:((G:Int)==0)=true:=by rw[beq_iff_eq];omega
   rw[e5]at HG
   clear c5 e5
   go_wp2_with fail
   refine HG.out.mono ?_
   rintro e w5 ⟨rfl,hb5⟩
   have p0:=cell_kept q0 hb5
   have p1:=cell_kept q1 hb5
   have HB5:Hid (Below w.heap.size w w5):=HB.out.trans (hb5.mono HB.out.size)
   clear hb5
   by_cases c4:0≤N
   ·have d4:decide ((0:Int)≤N)=true:=decide_eq_true c4
    have HV:Hid (V=decide (N≤0)):=HOKF.out HVT.out HVY.out HVN.out c4
    clear c4
    go_wp2
    all_goals go_ret
    all_goals exact⟨by rw[HV.out];rfl,HB5.out⟩
   ·have d4:decide ((0:Int)≤N)=false:=decide_eq_false c4
    have HV:Hid (V=false):=HLOF.out (by omega)
    clear c4
    go_wp2
    all_goals go_ret
    all_goals exact⟨by rw[HV.out];rfl,HB5.out⟩
set_option maxHeartbeats 4000000 in
set_option maxRecDepth 1000000 in
theorem fields_1 (N C:Int)(T:ByteArray)(M:List ByteArray)(Y:List Int)(vt vn vy:Value)(w:World)(h:NV w ⟨1,N,T,M,Y,C⟩ vt vn vy)(hb:NB ⟨1,N,T,M,Y,C⟩):
 Calls Tryz.prog 70 #[.agg #[.int .i64 1,.int .i64 N,vt,vn,vy,.int .i64 C]] w fun e w'=>e = .returned (.bool (vFd ⟨1,N,T,M,Y,C⟩))∧Below w.heap.size w w':=by
 obtain⟨W1,hW1⟩:∃W1,w.alloc (.cells #[.int .i64 1,.int .i64 N,vt,vn,vy,.int .i64 C] 51)=W1:=⟨_,rfl⟩
 have hB1:Below w.heap.size w W1:=by rw[← hW1];exact (Below.refl _ _).alloc (Nat.le_refl _) _
 have hBk:Blk W1 w.heap.size 51 #[.int .i64 1,.int .i64 N,vt,vn,vy,.int .i64 C]:=by rw[← hW1];exact Blk.new _ _ _
 have hnO:nOf ⟨1,N,T,M,Y,C⟩=1+(Y.length:Int):=rfl
 have hgN:gNk 1=0:=rfl
 have HTX:Hid (vTx ⟨1,N,T,M,Y,C⟩=(T.size==0)):=by show _=_;unfold vTx;rw[if_neg (show ¬(1:Int)=17 from by decide)]
 have HTY:Hid (vTy ⟨1,N,T,M,Y,C⟩=(decide (Y.length≤10)&&tOk Y)):=by show _=_;unfold vTy;rw[if_pos rfl]
 have HNS:Hid (vNs ⟨1,N,T,M,Y,C⟩=(((M.length:Int)==1+(Y.length:Int))&&M.all vNm)):=by show (((M.length:Int)==nOf ⟨1,N,T,M,Y,C⟩)&&M.all vNm)=_;rw[hnO]
 have HTXF:=hide (vfd_tx (d:=⟨1,N,T,M,Y,C⟩))
 have HTYF:=hide (vfd_ty (d:=⟨1,N,T,M,Y,C⟩))
 have HNSF:=hide (vfd_ns (d:=⟨1,N,T,M,Y,C⟩))
 have HLOF:=hide (vfd_lo (d:=⟨1,N,T,M,Y,C⟩))
 have HOKF:=hide (vfd_ok (d:=⟨1,N,T,M,Y,C⟩))
 simp only[hgN]at HOKF
 simp only at HLOF
 obtain⟨V,hV⟩:∃V,vFd ⟨1,N,T,M,Y,C⟩=V:=⟨_,rfl⟩
 rw[hV]at HTXF HTYF HNSF HLOF HOKF ⊢
 have HE:=hide hb.each
 have hyl:=hb.types
 have hml:=hb.names
 have htl:=hb.text
 obtain⟨ay,by_,oy,cy,hvy,hay,hcy⟩:=h.types
 obtain⟨an,bn,on,cn,hvn,han,hcn⟩:=h.names
 obtain⟨at_,bt,ot,ct,hvt,hat,hct⟩:=h.text
 simp only at hvy hvn hvt hay han hat hcy hcn hct hyl hml htl HE
 subst hvy hvn hvt
 have HC:=hide hcn
 have HW:=hide hW1
 have HB1:=hide hB1
 have HBK:=hide hBk
 have b0:=HBK.out.cell 0
 have b1:=HBK.out.cell 1
 have b2:=HBK.out.cell 2
 have b3:=HBK.out.cell 3
 have b4:=HBK.out.cell 4
 simp only[List.getElem?_toArray,List.getElem?_cons_succ,List.getElem?_cons_zero]at b0 b1 b2 b3 b4
 have HCY:Hid (∀w2,Below w.heap.size w w2→∀j,j<Y.length→w2.cell? ⟨by_,oy+j,none⟩=some (.int .i64 (Y.getD j 0))):=fun w2 hb2 j hj=>cell_kept (hcy j hj) hb2
 clear hW1 hB1 hBk hcy hct hcn hat h hb hnO hgN hV
 by_cases c1:¬Y.length≤10
 ·have e1:decide ((10:Int)<(Y.length:Int))=true:=decide_eq_true (by omega)
  have HV:Hid (V=false):=HTYF.out (by rw[HTY.out,decide_eq_false c1,Bool.false_and])
  clear c1
  go_enter Tryz.func70,Tryz.ntmps70
  go_wp2_with fail
  rw[HW.out]
  go_wp2
  all_goals go_ret
  all_goals exact⟨by rw[HV.out];rfl,HB1.out⟩
 have e1:decide ((10:Int)<(Y.length:Int))=false:=decide_eq_false (by omega)
 rw[decide_eq_true (show Y.length≤10 by omega),Bool.true_and]at HTY
 have HYL:Hid (Y.length≤10):=by show _≤_;omega
 clear c1
 go_enter Tryz.func70,Tryz.ntmps70
 go_wp2_with fail
 rw[HW.out]
 go_wp2
 go_loopw [4] (fun ix wr=>∃k:Nat,k≤Y.length∧ix = .int .i64 k∧tOk (Y.drop k)=tOk Y∧wr=W1) (fun ix _=>Y.length - (intOf ix).toNat)
 case atStart=>exact⟨0,Nat.zero_le _,rfl,rfl,rfl⟩
 case round=>
  obtain⟨k,hk,rfl,hok,hwr⟩:=hrel
  obtain rfl:W1=wr:=hwr.symm
  by_cases hlt:k<Y.length
  ·obtain rfl:=hay (by omega)
   have hlti:(k:Int)<(Y.length:Int):=by omega
   have g:=HCY.out _ HB1.out k hlt
   have hd:=drop_at Y 0 k hlt
   obtain⟨y,hy⟩:∃y,Y.getD k 0=y:=⟨_,rfl⟩
   rw[hy]at g hd
   have hok2:((y==0||y==1)&&tOk (Y.drop (k+1)))=tOk Y:=by rw[← hok,hd];rfl
   have HK:=hide hok2
   clear hd hy hok hok2
   by_cases y0:y=0
   ·subst y0
    have HR:Hid (tOk (Y.drop (k+1))=tOk Y):=HK.out
    clear HK
    go_wp2
    go_roundw
    case rel=>exact⟨k+1,by omega,by go_num,HR.out,by trivial⟩
    case measure=>simp[intOf];omega
   by_cases y1:y=1
   ·subst y1
    have HR:Hid (tOk (Y.drop (k+1))=tOk Y):=HK.out
    clear HK
    go_wp2
    go_roundw
    case rel=>exact⟨k+1,by omega,by go_num,HR.out,by trivial⟩
    case measure=>simp[intOf];omega
   have z0:(y != 0)=true:=by rw[bne_iff_ne];exact y0
   have z1:(y != 1)=true:=by rw[bne_iff_ne];exact y1
   have HR:Hid (tOk Y=false):=by show _=_;rw[← HK.out,beq_eq_false_iff_ne.2 y0,beq_eq_false_iff_ne.2 y1];rfl
   have HV:Hid (V=false):=HTYF.out (by rw[HTY.out,HR.out])
   clear HK y0 y1
   go_wp2
   go_ret
   exact⟨by rw[HV.out];rfl,HB1.out⟩
  ·have hge:¬(k:Int)<(Y.length:Int):=by omega
   have HVY:Hid (vTy ⟨1,N,T,M,Y,C⟩=true):=by show _=_;rw[HTY.out,← hok,show k=Y.length by omega,List.drop_length];rfl
   clear hok
   by_cases c2:M.length≠Y.length+1
   ·have e2:((M.length:Int) != (Y.length:Int)+1)=true:=by rw[bne_iff_ne];omega
    have HV:Hid (V=false):=HNSF.out (by rw[HNS.out,beq_eq_false_iff_ne.2 (show ¬(M.length:Int)=1+(Y.length:Int) by omega),Bool.false_and])
    clear c2
    go_wp2
    all_goals go_ret
    all_goals exact⟨by rw[HV.out];rfl,HB1.out⟩
   have e2:((M.length:Int) != (Y.length:Int)+1)=false:=by rw[bne_eq_false_iff_eq];omega
   have HNS2:Hid (vNs ⟨1,N,T,M,Y,C⟩=M.all vNm):=by show _=_;rw[HNS.out,beq_iff_eq.2 (show (M.length:Int)=1+(Y.length:Int) by omega),Bool.true_and]
   have HQ:Hid (M.length=Y.length+1):=by show _=_;omega
   have hyb:(Y.length:Int)≤10:=by have:=HYL.out;omega
   clear c2 hlt hk
   go_wp2
   clear hge
   go_loopw [5] (fun ix wr=>∃k:Nat,k≤M.length∧ix = .int .i64 k∧(M.drop k).all vNm=M.all vNm∧Below w.heap.size w wr∧Below W1.heap.size W1 wr) (fun ix _=>M.length - (intOf ix).toNat)
   case atStart=>exact⟨0,Nat.zero_le _,rfl,rfl,HB1.out,Below.refl _ _⟩
   case round=>
    obtain⟨k,hk,rfl,hok,hb,hb1⟩:=hrel
    have HB:=hide hb
    have HBW:=hide hb1
    have q0:=cell_kept b0 hb1
    have q1:=cell_kept b1 hb1
    have q2:=cell_kept b2 hb1
    have q3:=cell_kept b3 hb1
    by_cases hlt:k<M.length
    ·obtain rfl:=han (by omega)
     obtain⟨x,hx,hxs⟩:=HC.out k hlt
     have g:=cell_kept hx hb
     have hz:=HE.out k hlt
     have hd:M.drop k=M.getD k .empty::M.drop (k+1):=drop_at M .empty k hlt
     rw[hd,List.all_cons]at hok
     obtain⟨s,hs⟩:∃s,M.getD k .empty=s:=⟨_,rfl⟩
     rw[hs]at hxs hz hok
     have HL:=hide (l2name_any x s wr (hxs.below hb) hz)
     obtain⟨B,hB⟩:∃B,vNm s=B:=⟨_,rfl⟩
     rw[hB]at HL hok
     have HOK:=hide hok
     have hlq:decide ((k:Int)<(Y.length:Int)+1)=true:=decide_eq_true (by have:=HQ.out;omega)
     have hlti:(k:Int)<(M.length:Int):=by omega
     clear hd hs hx hxs hz hok hB hb hb1 hk
     go_wp2_with fail
     refine HL.out.mono ?_
     rintro e w4 ⟨rfl,hb4⟩
     have HB4:Hid (Below w.heap.size w w4):=HB.out.trans (hb4.mono HB.out.size)
     have HBW4:Hid (Below W1.heap.size W1 w4):=HBW.out.trans (hb4.mono HBW.out.size)
     clear hb4
     cases B with
     |true=>
      have HR:Hid ((M.drop (k+1)).all vNm=M.all vNm):=HOK.out
      go_wp2
      go_roundw
      case rel=>exact⟨k+1,by omega,by go_num,HR.out,HB4.out,HBW4.out⟩
      case measure=>simp[intOf];omega
     |false=>
      have HR:Hid (M.all vNm=false):=HOK.out.symm
      have HV:Hid (V=false):=HNSF.out (by rw[HNS2.out,HR.out])
      go_wp2
      go_ret
      exact⟨by rw[HV.out];rfl,HB4.out⟩
    ·have hlq:decide ((k:Int)<(Y.length:Int)+1)=false:=decide_eq_false (by have:=HQ.out;omega)
     have HVN:Hid (vNs ⟨1,N,T,M,Y,C⟩=true):=by show _=_;rw[HNS2.out,← hok,show k=M.length by omega,List.drop_length];rfl
     clear hok hb hb1 hlt hk
     by_cases c3:T.size≠0
     ·have e3:((T.size:Int) != 0)=true:=by rw[bne_iff_ne];omega
      have HV:Hid (V=false):=HTXF.out (by rw[HTX.out,beq_eq_false_iff_ne];exact c3)
      clear c3
      go_wp2
      all_goals go_ret
      all_goals exact⟨by rw[HV.out];rfl,HB.out⟩
     have c3:T.size=0:=by omega
     have e3:((T.size:Int) != 0)=false:=by rw[bne_eq_false_iff_eq];omega
     have HVT:Hid (vTx ⟨1,N,T,M,Y,C⟩=true):=by show _=_;rw[HTX.out,beq_iff_eq];exact c3
     clear c3
     by_cases c4:0≤N
     ·have d4:decide ((0:Int)≤N)=true:=decide_eq_true c4
      have HV:Hid (V=decide (N≤0)):=HOKF.out HVT.out HVY.out HVN.out c4
      clear c4
      go_wp2
      all_goals go_ret
      all_goals exact⟨by rw[HV.out];rfl,HB.out⟩
     ·have d4:decide ((0:Int)≤N)=false:=decide_eq_false c4
      have HV:Hid (V=false):=HLOF.out (by omega)
      clear c4
      go_wp2
      all_goals go_ret
      all_goals exact⟨by rw[HV.out];rfl,HB.out⟩
theorem l2fields_any (d:Nd)(vt vn vy:Value)(w:World)(h:NV w d vt vn vy)(hb:NB d):
 Calls Tryz.prog 70 #[.agg #[.int .i64 d.kind,.int .i64 d.n,vt,vn,vy,.int .i64 d.count]] w fun e w'=>e = .returned (.bool (vFd d))∧Below w.heap.size w w':=by
 obtain⟨K,N,T,M,Y,C⟩:=d
 by_cases h1:K=1
 ·subst h1;exact fields_1 N C T M Y vt vn vy w h hb
 by_cases h3:K=3
 ·subst h3;exact fields_3 N C T M Y vt vn vy w h hb
 by_cases h4:K=4
 ·subst h4;exact fields_4 N C T M Y vt vn vy w h hb
 by_cases h5:K=5
 ·subst h5;exact fields_5 N C T M Y vt vn vy w h hb
 by_cases h19:K=19
 ·subst h19;exact fields_19 N C T M Y vt vn vy w h hb
 by_cases h17:K=17
 ·subst h17;exact fields_17 N C T M Y vt vn vy w h hb
 by_cases h10:K=10
 ·subst h10;exact fields_10 N C T M Y vt vn vy w h hb
 by_cases h11:K=11
 ·subst h11;exact fields_11 N C T M Y vt vn vy w h hb
 by_cases h12:K=12
 ·subst h12;exact fields_12 N C T M Y vt vn vy w h hb
 by_cases h16:K=16
 ·subst h16;exact fields_16 N C T M Y vt vn vy w h hb
 by_cases h18:K=18
 ·subst h18;exact fields_18 N C T M Y vt vn vy w h hb
 by_cases h20:K=20
 ·subst h20;exact fields_20 N C T M Y vt vn vy w h hb
 exact fields_o K N C T M Y vt vn vy w (beq_eq_false_iff_ne.2 h1) (beq_eq_false_iff_ne.2 h3) (beq_eq_false_iff_ne.2 h4) (beq_eq_false_iff_ne.2 h5) (beq_eq_false_iff_ne.2 h19) (beq_eq_false_iff_ne.2 h17) (beq_eq_false_iff_ne.2 h10) (beq_eq_false_iff_ne.2 h11) (beq_eq_false_iff_ne.2 h12) (beq_eq_false_iff_ne.2 h16) (beq_eq_false_iff_ne.2 h18) (beq_eq_false_iff_ne.2 h20) h hb
theorem sm_le {n:Nat}{cnt:Nat→Int}{i e:Nat}(h:∀j,i≤j→j<e→0≤cnt j∧cnt j≤n)(hn:n≤1048576):∀l,l≤e - i→sm cnt i l≤1048576*(l:Int):=by
 intro l
 induction l with
 |zero=>intro _;simp[sm]
 |succ l ih=>
  intro hl
  have:=ih (by omega)
  have:=h (i+l) (by omega) (by omega)
  rw[sm_succ];omega
set_option maxHeartbeats 1000000 in
set_option maxRecDepth 1000000 in
theorem l2next_any (v:Value)(L:List Nd)(hl:L.length≤1048576)(i e:Nat)(w:World)(hB:Br L.length (cn L) i e)(h:NS w v L):
 Calls Tryz.prog 99 #[v,.int .i64 i] w fun x w'=>x = .returned (.int .i64 e)∧w'=w:=by
 obtain⟨a,b,o,c,rfl,ha,hc⟩:=h
 have hlt:=hB.lt
 have hle:=hB.le
 obtain rfl:=ha (by omega)
 have HC:Hid (∀j,j<L.length→w.cell? ⟨b,o+j*6+5,none⟩=some (.int .i64 (cn L j))):=fun j hj=>by
  obtain⟨vt,vn,vy,hN,_⟩:=hc j hj
  exact hN.count
 clear hc ha
 have g:=HC.out i (by omega)
 obtain⟨C,hC⟩:∃C,cn L i=C:=⟨_,rfl⟩
 have hC0:=hB.cn i (Nat.le_refl _) hlt
 have HS0:Hid (1+sm (cn L) i 1=C):=by show _=_;rw[← hC];simp only[sm];omega
 rw[hC]at g hC0
 have HBR:=hide hB
 clear hB
 go_enter Tryz.func99,Tryz.ntmps99
 go_wp2
 go_loopw [5,6] (fun x y wr=>∃m:Nat,i+1+m≤e∧x = .int .i64 (i+1+m:Nat)∧y = .int .i64 (1+sm (cn L) i (m+1))∧wr=w) (fun x _ _=>e - (intOf x).toNat)
 case atStart=>exact⟨0,by omega,by go_num,by rw[HS0.out],rfl⟩
 case round=>
  obtain⟨m,hm,rfl,rfl,rfl⟩:=hrel
  by_cases hlt2:i+1+m<e
  ·have hp:=HBR.out.pos (m+1) (by omega) (by omega)
   have hu:=sm_le HBR.out.cn hl (m+1) (by omega)
   have hk:=HBR.out.cn (i+1+m) (by omega) hlt2
   have g2:=HC.out (i+1+m) (by omega)
   have HN:Hid (1+sm (cn L) i (m+1)+(cn L (i+1+m) - 1)=1+sm (cn L) i (m+2)):=by
    show _=_;rw[sm_succ (cn L) i (m+1),show i+(m+1)=i+1+m by omega];omega
   obtain⟨O,hO⟩:∃O,1+sm (cn L) i (m+1)=O:=⟨_,rfl⟩
   obtain⟨Y,hY⟩:∃Y,cn L (i+1+m)=Y:=⟨_,rfl⟩
   obtain⟨P,hP⟩:∃P:Nat,i+1+m=P:=⟨_,rfl⟩
   have hO1:0<O:=by omega
   have hO2:O≤2000000000000:=by omega
   have t0:decide ((0:Int)<O)=true:=decide_eq_true hO1
   rw[hY]at hk g2 HN
   rw[hO]at HN
   rw[hO]
   rw[hP]at g2 hlt2
   have HP:=hide hP
   rw[hP]
   clear hp hu hO hY hP hm
   go_wp2
   go_roundw
   case rel=>exact⟨m+1,by have:=HP.out;omega,by have:=HP.out;go_num,by rw[← HN.out],by trivial⟩
   case measure=>simp[intOf];omega
  ·have he:i+1+m=e:=by omega
   have hz:1+sm (cn L) i (m+1)=0:=by rw[show m+1=e - i by omega,HBR.out.tot];rfl
   rw[hz,he]
   clear hz
   go_wp2
   go_ret
   exact⟨rfl,by trivial⟩
def ci (l:List Int):List Value:=l.map fun n=>Value.int .i64 n
theorem ci_length (l:List Int):(ci l).length=l.length:=by simp[ci]
theorem ci_append (a b:List Int):ci (a++b)=ci a++ci b:=by simp[ci]
theorem ci_one (l:List Int):∀u∈ci l,u.oneCell'=true:=by
 intro u hu
 obtain⟨n,_,rfl⟩:=List.mem_map.1 hu
 rfl
theorem Tryz.info3 : (Tryz.prog.info? 3).map (fun i=>(i.zero,i.size,i.bytes))=some (some (.int .i64 0),1,8):=by kernel_rfl
theorem info_partsI {P:Program}{t:TypeId}{z:Value}{a b:Nat}(h:(P.info? t).map (fun i=>(i.zero,i.size,i.bytes))=some (some z,a,b)):∃i,P.info? t=some i∧i.zero=some z∧i.size=a∧i.bytes=b:=by
 cases hi:P.info? t with
 |none=>rw[hi]at h;cases h
 |some i=>rw[hi]at h;simp at h;exact⟨i,rfl,h.1,h.2.1,h.2.2⟩
theorem wp_app_i {ops:Array Oper}{rest:List Oper}{o:Oper}{a:Act}{Q:Exit→Act→World→Prop}{w:World}(hgd:o.guard=none)(s x:Operand)
 (ho:o.op = .call { callee:=.builtin .append,args:=#[s,x],argTypes:=#[24,24] }) (B:Nat) (v:Value) (xs:List Int) (hs:a.eval s=v) (hown:w.ownsRow B 3 1 v xs.length (ci xs))
 (g c:Nat) (ys:List Int) (hx:a.eval x = .slice (some ⟨g,0,none⟩) ys.length c) (hnews:∀j,j<ys.length→w.cell? ⟨g,j,none⟩=some (.int .i64 (ys.getD j 0))) (hlen:xs.length+ys.length≤100000000) (hbase:B≤w.heap.size)
 (h:∀v' w' l,Hid (l=xs++ys)→w'.ownsRow B 3 1 v' l.length (ci l)→w.grownBy w' v.ownBlock→wpList Tryz.prog ops Q rest (a.put o.dst v') w'):wpList Tryz.prog ops Q (o::rest) a w:=by
 obtain⟨i0,hi,hz0,hz1,hz2⟩:=info_partsI Tryz.info3
 refine wpList_append_own _ hgd s x 24 ho B 3 i0 (.int .i64 0) 1 8 Tryz.underlying24 hi hz0 hz1 hz2 rfl (by decide) v xs.length (ci xs) hs hown ⟨g,0,none⟩ ys.length c (ci ys) hx (by rw[ci_length,Nat.mul_one]) (fun j u hj=>?_) (ci_one ys) (by unfold maxLen;omega) (by omega) hbase (fun v' w' h1 h2 _=>?_)
 ·have hjl:j<ys.length:=by
   rcases Nat.lt_or_ge j ys.length with h|h
   ·exact h
   ·rw[List.getElem?_eq_none (by rw[ci_length];exact h)]at hj;cases hj
  have e:(⟨g,0,none⟩:Addr).add j = ⟨g,0+j,none⟩:=by unfold Addr.add;split<;>simp_all
  rw[e,Nat.zero_add,hnews j hjl,← hj]
  simp[ci,List.getD,hjl]
 ·refine h v' w' (xs++ys) rfl ?_ h2
  rw[List.length_append,ci_append]
  exact h1
theorem app_below_i {B:Nat}{w0 w w':World}{v:Value}{n:Nat}{xs:List Value}(h:Below B w0 w)(hown:w.ownsRow B 3 1 v n xs)(hB:B≤w.heap.size)(hg:w.grownBy w' v.ownBlock):Below B w0 w':=
 h.grown hg hB (fun k hk=>(hown.lt k hk).1)
theorem own_is {w:World}{B:Nat}{v:Value}{l:List Int}(h:w.ownsRow B 3 1 v l.length (ci l)):IS w v l:=by
 rcases h.2 with⟨hv,h0⟩|⟨g,c,cur,hv,hb,hg,_⟩
 ·have e:l = []:=List.length_eq_zero_iff.1 h0
  subst e
  exact⟨none,0,0,0,hv,fun h=>absurd h (Nat.not_lt_zero _),fun j hj=>absurd hj (Nat.not_lt_zero _)⟩
 ·refine⟨some ⟨g,0,none⟩,g,0,c,hv,fun _=>rfl,fun j hj=>?_⟩
  rw[hv]at h
  rw[Nat.zero_add,h.cellAt j (by omega)]
  simp[ci,List.getD,hj]
def kp (nxT:Nat→Nat):Nat→Nat→List Int
 |0,_=>[]
 |c+1,a=>(a:Int)::kp nxT c (nxT a)
theorem kp_length (nxT:Nat→Nat):∀c a,(kp nxT c a).length=c:=by
 intro c
 induction c with
 |zero=>intro a;rfl
 |succ c ih=>intro a;simp[kp,ih]
set_option maxHeartbeats 1000000 in
set_option maxRecDepth 1000000 in
theorem l2kids_own (v:Value)(L:List Nd)(hl:L.length≤1048576)(i e f:Nat)(w:World)(hi:i<L.length)(hf:f≤60)(h0:0≤cn L i)(hs:sLoop (sE L.length (cn L) f) (cn L i).toNat (i+1)=some e)(h:NS w v L):
 Calls Tryz.prog 71 #[v,.int .i64 i] w fun x w'=>∃u,x = .returned u∧w'.ownsRow w.heap.size 3 1 u (kp (nxT L.length (cn L)) (cn L i).toNat (i+1)).length (ci (kp (nxT L.length (cn L)) (cn L i).toNat (i+1)))∧Below w.heap.size w w':=by
 have HNS:=hide h
 obtain⟨a,b,o,c,rfl,ha,hc⟩:=h
 obtain rfl:=ha (by omega)
 obtain⟨vt,vn,vy,hN,_⟩:=hc i hi
 have HG:=hide hN.count
 obtain⟨C,hC⟩:∃C,cn L i=C:=⟨_,rfl⟩
 have hge:=sLoop_ge (fun i e h=>(sE_br _ _ _ i e h).lt) _ _ _ hs
 have hbr:=br_loop (sE_br _ _ f) _ _ _ (by omega) hs
 have hC2:(L.getD i .zero).count=C:=hC
 rw[hC2]at HG
 rw[hC]at h0 hs hge ⊢
 have HS0:=hide hs
 have hcl:C.toNat≤1048576:=by omega
 clear hc ha hN hC hC2 hs hge hbr
 go_enter Tryz.func71,Tryz.ntmps71
 go_wp2
 go_loopw [5,6,7] (fun out x ix wr=>∃(k p:Nat) (X:List Int),k≤C.toNat∧ix = .int .i64 k∧x = .int .i64 p∧p≤L.length∧X.length=k∧sLoop (sE L.length (cn L) f) (C.toNat - k) p=some e∧X++kp (nxT L.length (cn L)) (C.toNat - k) p=kp (nxT L.length (cn L)) C.toNat (i+1)∧wr.ownsRow w.heap.size 3 1 out X.length (ci X)∧Below w.heap.size w wr) (fun _ _ ix _=>C.toNat - (intOf ix).toNat)
 case atStart=>exact⟨0,i+1,[],Nat.zero_le _,rfl,by go_num,by omega,rfl,HS0.out,rfl,World.ownsRow_nil _ _ _ _,Below.refl _ _⟩
 case round=>
  obtain⟨k,p,X,hk,rfl,rfl,hp,hX,hs,hcat,hown,hb⟩:=hrel
  have HO:=hide hown
  have HB:=hide hb
  have g:=cell_kept HG.out hb
  by_cases hlt:k<C.toNat
  ·have hlti:decide ((k:Int)<C)=true:=decide_eq_true (by omega)
   have hsp:C.toNat - k=(C.toNat - (k+1))+1:=by omega
   rw[hsp,sLoop]at hs
   cases hx:sE L.length (cn L) f p with
   |none=>rw[hx]at hs;cases hs
   |some q=>
    rw[hx]at hs
    rw[hsp,kp,nx_of hf hx]at hcat
    have hbr:=sE_br _ _ _ _ _ hx
    have HBR:=hide hbr
    have hql:=hbr.le
    have HS:=hide hs
    have HCAT:=hide hcat
    have hwr:=hb.size
    clear hs hcat hx hbr hown hb
    go_wp2_with (at_builtin;refine wp_app_i rfl _ _ rfl w.heap.size _ X rfl (HO.out.alloc _) wr.heap.size 1 [(p:Int)] rfl ?n1 ?l1 ?b1 ?_)
    case l1=>first|omega|(simp;omega)
    case b1=>first|omega|(simp;omega)
    intro v' w3 l hl3 ho hg
    have HO3:=hide ho
    have HB3:Hid (Below w.heap.size w w3):=app_below_i (HB.out.alloc hwr _) (HO.out.alloc _) (by simp;omega) hg
    have HL:=hl3
    have HX:Hid (l.length=k+1):=by show _=_;rw[hl3.out];simp[hX]
    clear ho hg hl3
    go_wp2_with fail
    refine (l2next_any _ L hl p q w3 HBR.out (HNS.out.below HB3.out)).mono ?_
    rintro x w4 ⟨rfl,rfl⟩
    go_wp2
    go_roundw
    case rel=>exact⟨k+1,q,l,by omega,by go_num,rfl,hql,HX.out,HS.out,by rw[HL.out,List.append_assoc];exact HCAT.out,HO3.out,HB3.out⟩
    case measure=>simp[intOf];omega
  ·have hlti:decide ((k:Int)<C)=false:=decide_eq_false (by omega)
   have HE:Hid (X=kp (nxT L.length (cn L)) C.toNat (i+1)):=by show _=_;rw[← hcat,show C.toNat - k=0 by omega,kp,List.append_nil]
   clear hs hcat hown hb
   go_wp2
   go_ret
   exact⟨_,rfl,by rw[← HE.out];exact HO.out,HB.out⟩
theorem l2kids_any (v:Value)(L:List Nd)(hl:L.length≤1048576)(i e f:Nat)(w:World)(hi:i<L.length)(hf:f≤60)(h0:0≤cn L i)(hs:sLoop (sE L.length (cn L) f) (cn L i).toNat (i+1)=some e)(h:NS w v L):
 Calls Tryz.prog 71 #[v,.int .i64 i] w fun x w'=>∃u,x = .returned u∧IS w' u (kp (nxT L.length (cn L)) (cn L i).toNat (i+1))∧Below w.heap.size w w':=
 (l2kids_own v L hl i e f w hi hf h0 hs h).mono fun _ _ ⟨u,h1,h2,h3⟩=>⟨u,h1,own_is h2,h3⟩
end Go.Proofs.YtbiakdjpeblclaaGreatDoor

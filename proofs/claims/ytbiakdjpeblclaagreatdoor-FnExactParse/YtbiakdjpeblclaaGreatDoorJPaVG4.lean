/-
  The walk of l2fields, where a node bears a number.
-/
import Derived.Test.YtbiakdjpeblclaaGreatDoorJPaVG0
namespace Go.Proofs.YtbiakdjpeblclaaGreatDoor
open Go.RowKit
set_option maxHeartbeats 4000000 in
set_option maxRecDepth 1000000 in
theorem fields_10 (N C:Int)(T:ByteArray)(M:List ByteArray)(Y:List Int)(vt vn vy:Value)(w:World)(h:NV w ⟨10,N,T,M,Y,C⟩ vt vn vy)(hb:NB ⟨10,N,T,M,Y,C⟩):
 Calls Tryz.prog 70 #[.agg #[.int .i64 10,.int .i64 N,vt,vn,vy,.int .i64 C]] w fun e w'=>e = .returned (.bool (vFd ⟨10,N,T,M,Y,C⟩))∧Below w.heap.size w w':=by
 obtain⟨W1,hW1⟩:∃W1,w.alloc (.cells #[.int .i64 10,.int .i64 N,vt,vn,vy,.int .i64 C] 51)=W1:=⟨_,rfl⟩
 have hB1:Below w.heap.size w W1:=by rw[← hW1];exact (Below.refl _ _).alloc (Nat.le_refl _) _
 have hBk:Blk W1 w.heap.size 51 #[.int .i64 10,.int .i64 N,vt,vn,vy,.int .i64 C]:=by rw[← hW1];exact Blk.new _ _ _
 have hnO:nOf ⟨10,N,T,M,Y,C⟩=0:=rfl
 have hgN:gNk 10=3:=rfl
 have HTX:Hid (vTx ⟨10,N,T,M,Y,C⟩=(T.size==0)):=by show _=_;unfold vTx;rw[if_neg (show ¬(10:Int)=17 from by decide)]
 have HTY:Hid (vTy ⟨10,N,T,M,Y,C⟩=(Y.length==0)):=by show _=_;unfold vTy;rw[if_neg (show ¬(10:Int)=1 from by decide)]
 have HNS:Hid (vNs ⟨10,N,T,M,Y,C⟩=(((M.length:Int)==0)&&M.all vNm)):=by show (((M.length:Int)==nOf ⟨10,N,T,M,Y,C⟩)&&M.all vNm)=_;rw[hnO]
 have HTXF:=hide (vfd_tx (d:=⟨10,N,T,M,Y,C⟩))
 have HTYF:=hide (vfd_ty (d:=⟨10,N,T,M,Y,C⟩))
 have HNSF:=hide (vfd_ns (d:=⟨10,N,T,M,Y,C⟩))
 have HLOF:=hide (vfd_lo (d:=⟨10,N,T,M,Y,C⟩))
 have HOKF:=hide (vfd_ok (d:=⟨10,N,T,M,Y,C⟩))
 simp only[hgN]at HOKF
 simp only at HLOF
 obtain⟨V,hV⟩:∃V,vFd ⟨10,N,T,M,Y,C⟩=V:=⟨_,rfl⟩
 rw[hV]at HTXF HTYF HNSF HLOF HOKF ⊢
 have HE:=hide hb.each
 have hyl:=hb.types
 have hml:=hb.names
 have htl:=hb.text
 obtain⟨ay,by_,oy,cy,hvy,hay,hcy⟩:=h.types
 obtain⟨an,bn,on,cn,hvn,han,hcn⟩:=h.names
 obtain⟨at_,bt,ot,ct,hvt,hat,hct⟩:=h.text
 simp only at hvy hvn hvt hay han hat hcy hcn hct hyl hml htl HE
 subst hvy hvn hvt
 have HC:=hide hcn
 have HW:=hide hW1
 have HB1:=hide hB1
 have HBK:=hide hBk
 have b0:=HBK.out.cell 0
 have b1:=HBK.out.cell 1
 have b2:=HBK.out.cell 2
 have b3:=HBK.out.cell 3
 have b4:=HBK.out.cell 4
 simp only[List.getElem?_toArray,List.getElem?_cons_succ,List.getElem?_cons_zero]at b0 b1 b2 b3 b4
 clear hW1 hB1 hBk hcy hct hcn hat hay h hb hnO hgN hV
 by_cases c1:Y.length≠0
 ·have e1:((Y.length:Int) != 0)=true:=by rw[bne_iff_ne];omega
  have HV:Hid (V=false):=HTYF.out (by rw[HTY.out,beq_eq_false_iff_ne];exact c1)
  clear c1
  go_enter Tryz.func70,Tryz.ntmps70
  go_wp2_with fail
  rw[HW.out]
  go_wp2
  all_goals go_ret
  all_goals exact⟨by rw[HV.out];rfl,HB1.out⟩
 have c1:Y.length=0:=by omega
 have HVY:Hid (vTy ⟨10,N,T,M,Y,C⟩=true):=by show _=_;rw[HTY.out,beq_iff_eq];exact c1
 have e1:((Y.length:Int) != 0)=false:=by rw[bne_eq_false_iff_eq];omega
 by_cases c2:M.length≠0
 ·have e2:((M.length:Int) != 0)=true:=by rw[bne_iff_ne];omega
  have HV:Hid (V=false):=HNSF.out (by rw[HNS.out,beq_eq_false_iff_ne.2 (show ¬(M.length:Int)=0 by omega),Bool.false_and])
  clear c1 c2
  go_enter Tryz.func70,Tryz.ntmps70
  go_wp2_with fail
  rw[HW.out]
  go_wp2
  all_goals go_ret
  all_goals exact⟨by rw[HV.out];rfl,HB1.out⟩
 have c2:M.length=0:=by omega
 have e2:((M.length:Int) != 0)=false:=by rw[bne_eq_false_iff_eq];omega
 have HNS2:Hid (vNs ⟨10,N,T,M,Y,C⟩=M.all vNm):=by show _=_;rw[HNS.out,beq_iff_eq.2 (show (M.length:Int)=0 by omega),Bool.true_and]
 have HQ:Hid (M.length=0):=c2
 clear c1 c2
 go_enter Tryz.func70,Tryz.ntmps70
 go_wp2_with fail
 rw[HW.out]
 go_wp2
 go_loopw [5] (fun ix wr=>∃k:Nat,k≤M.length∧ix = .int .i64 k∧(M.drop k).all vNm=M.all vNm∧Below w.heap.size w wr∧Below W1.heap.size W1 wr) (fun ix _=>M.length - (intOf ix).toNat)
 case atStart=>exact⟨0,Nat.zero_le _,rfl,rfl,HB1.out,Below.refl _ _⟩
 case round=>
  obtain⟨k,hk,rfl,hok,hb,hb1⟩:=hrel
  have HB:=hide hb
  have HBW:=hide hb1
  have q0:=cell_kept b0 hb1
  have q1:=cell_kept b1 hb1
  have q2:=cell_kept b2 hb1
  have q3:=cell_kept b3 hb1
  by_cases hlt:k<M.length
  ·have:=HQ.out;omega
  ·have hlq:decide ((k:Int)<0)=false:=decide_eq_false (by have:=HQ.out;omega)
   have HVN:Hid (vNs ⟨10,N,T,M,Y,C⟩=true):=by show _=_;rw[HNS2.out,← hok,show k=M.length by omega,List.drop_length];rfl
   clear hok hb hb1 hlt hk
   by_cases c3:T.size≠0
   ·have e3:((T.size:Int) != 0)=true:=by rw[bne_iff_ne];omega
    have HV:Hid (V=false):=HTXF.out (by rw[HTX.out,beq_eq_false_iff_ne];exact c3)
    clear c3
    go_wp2
    all_goals go_ret
    all_goals exact⟨by rw[HV.out];rfl,HB.out⟩
   have c3:T.size=0:=by omega
   have e3:((T.size:Int) != 0)=false:=by rw[bne_eq_false_iff_eq];omega
   have HVT:Hid (vTx ⟨10,N,T,M,Y,C⟩=true):=by show _=_;rw[HTX.out,beq_iff_eq];exact c3
   clear c3
   by_cases c4:0≤N
   ·have d4:decide ((0:Int)≤N)=true:=decide_eq_true c4
    have HV:Hid (V=decide (N≤3)):=HOKF.out HVT.out HVY.out HVN.out c4
    clear c4
    go_wp2
    all_goals go_ret
    all_goals exact⟨by rw[HV.out];rfl,HB.out⟩
   ·have d4:decide ((0:Int)≤N)=false:=decide_eq_false c4
    have HV:Hid (V=false):=HLOF.out (by omega)
    clear c4
    go_wp2
    all_goals go_ret
    all_goals exact⟨by rw[HV.out];rfl,HB.out⟩
set_option maxHeartbeats 4000000 in
set_option maxRecDepth 1000000 in
theorem fields_11 (N C:Int)(T:ByteArray)(M:List ByteArray)(Y:List Int)(vt vn vy:Value)(w:World)(h:NV w ⟨11,N,T,M,Y,C⟩ vt vn vy)(hb:NB ⟨11,N,T,M,Y,C⟩):
 Calls Tryz.prog 70 #[.agg #[.int .i64 11,.int .i64 N,vt,vn,vy,.int .i64 C]] w fun e w'=>e = .returned (.bool (vFd ⟨11,N,T,M,Y,C⟩))∧Below w.heap.size w w':=by
 obtain⟨W1,hW1⟩:∃W1,w.alloc (.cells #[.int .i64 11,.int .i64 N,vt,vn,vy,.int .i64 C] 51)=W1:=⟨_,rfl⟩
 have hB1:Below w.heap.size w W1:=by rw[← hW1];exact (Below.refl _ _).alloc (Nat.le_refl _) _
 have hBk:Blk W1 w.heap.size 51 #[.int .i64 11,.int .i64 N,vt,vn,vy,.int .i64 C]:=by rw[← hW1];exact Blk.new _ _ _
 have hnO:nOf ⟨11,N,T,M,Y,C⟩=0:=rfl
 have hgN:gNk 11=3:=rfl
 have HTX:Hid (vTx ⟨11,N,T,M,Y,C⟩=(T.size==0)):=by show _=_;unfold vTx;rw[if_neg (show ¬(11:Int)=17 from by decide)]
 have HTY:Hid (vTy ⟨11,N,T,M,Y,C⟩=(Y.length==0)):=by show _=_;unfold vTy;rw[if_neg (show ¬(11:Int)=1 from by decide)]
 have HNS:Hid (vNs ⟨11,N,T,M,Y,C⟩=(((M.length:Int)==0)&&M.all vNm)):=by show (((M.length:Int)==nOf ⟨11,N,T,M,Y,C⟩)&&M.all vNm)=_;rw[hnO]
 have HTXF:=hide (vfd_tx (d:=⟨11,N,T,M,Y,C⟩))
 have HTYF:=hide (vfd_ty (d:=⟨11,N,T,M,Y,C⟩))
 have HNSF:=hide (vfd_ns (d:=⟨11,N,T,M,Y,C⟩))
 have HLOF:=hide (vfd_lo (d:=⟨11,N,T,M,Y,C⟩))
 have HOKF:=hide (vfd_ok (d:=⟨11,N,T,M,Y,C⟩))
 simp only[hgN]at HOKF
 simp only at HLOF
 obtain⟨V,hV⟩:∃V,vFd ⟨11,N,T,M,Y,C⟩=V:=⟨_,rfl⟩
 rw[hV]at HTXF HTYF HNSF HLOF HOKF ⊢
 have HE:=hide hb.each
 have hyl:=hb.types
 have hml:=hb.names
 have htl:=hb.text
 obtain⟨ay,by_,oy,cy,hvy,hay,hcy⟩:=h.types
 obtain⟨an,bn,on,cn,hvn,han,hcn⟩:=h.names
 obtain⟨at_,bt,ot,ct,hvt,hat,hct⟩:=h.text
 simp only at hvy hvn hvt hay han hat hcy hcn hct hyl hml htl HE
 subst hvy hvn hvt
 have HC:=hide hcn
 have HW:=hide hW1
 have HB1:=hide hB1
 have HBK:=hide hBk
 have b0:=HBK.out.cell 0
 have b1:=HBK.out.cell 1
 have b2:=HBK.out.cell 2
 have b3:=HBK.out.cell 3
 have b4:=HBK.out.cell 4
 simp only[List.getElem?_toArray,List.getElem?_cons_succ,List.getElem?_cons_zero]at b0 b1 b2 b3 b4
 clear hW1 hB1 hBk hcy hct hcn hat hay h hb hnO hgN hV
 by_cases c1:Y.length≠0
 ·have e1:((Y.length:Int) != 0)=true:=by rw[bne_iff_ne];omega
  have HV:Hid (V=false):=HTYF.out (by rw[HTY.out,beq_eq_false_iff_ne];exact c1)
  clear c1
  go_enter Tryz.func70,Tryz.ntmps70
  go_wp2_with fail
  rw[HW.out]
  go_wp2
  all_goals go_ret
  all_goals exact⟨by rw[HV.out];rfl,HB1.out⟩
 have c1:Y.length=0:=by omega
 have HVY:Hid (vTy ⟨11,N,T,M,Y,C⟩=true):=by show _=_;rw[HTY.out,beq_iff_eq];exact c1
 have e1:((Y.length:Int) != 0)=false:=by rw[bne_eq_false_iff_eq];omega
 by_cases c2:M.length≠0
 ·have e2:((M.length:Int) != 0)=true:=by rw[bne_iff_ne];omega
  have HV:Hid (V=false):=HNSF.out (by rw[HNS.out,beq_eq_false_iff_ne.2 (show ¬(M.length:Int)=0 by omega),Bool.false_and])
  clear c1 c2
  go_enter Tryz.func70,Tryz.ntmps70
  go_wp2_with fail
  rw[HW.out]
  go_wp2
  all_goals go_ret
  all_goals exact⟨by rw[HV.out];rfl,HB1.out⟩
 have c2:M.length=0:=by omega
 have e2:((M.length:Int) != 0)=false:=by rw[bne_eq_false_iff_eq];omega
 have HNS2:Hid (vNs ⟨11,N,T,M,Y,C⟩=M.all vNm):=by show _=_;rw[HNS.out,beq_iff_eq.2 (show (M.length:Int)=0 by omega),Bool.true_and]
 have HQ:Hid (M.length=0):=c2
 clear c1 c2
 go_enter Tryz.func70,Tryz.ntmps70
 go_wp2_with fail
 rw[HW.out]
 go_wp2
 go_loopw [5] (fun ix wr=>∃k:Nat,k≤M.length∧ix = .int .i64 k∧(M.drop k).all vNm=M.all vNm∧Below w.heap.size w wr∧Below W1.heap.size W1 wr) (fun ix _=>M.length - (intOf ix).toNat)
 case atStart=>exact⟨0,Nat.zero_le _,rfl,rfl,HB1.out,Below.refl _ _⟩
 case round=>
  obtain⟨k,hk,rfl,hok,hb,hb1⟩:=hrel
  have HB:=hide hb
  have HBW:=hide hb1
  have q0:=cell_kept b0 hb1
  have q1:=cell_kept b1 hb1
  have q2:=cell_kept b2 hb1
  have q3:=cell_kept b3 hb1
  by_cases hlt:k<M.length
  ·have:=HQ.out;omega
  ·have hlq:decide ((k:Int)<0)=false:=decide_eq_false (by have:=HQ.out;omega)
   have HVN:Hid (vNs ⟨11,N,T,M,Y,C⟩=true):=by show _=_;rw[HNS2.out,← hok,show k=M.length by omega,List.drop_length];rfl
   clear hok hb hb1 hlt hk
   by_cases c3:T.size≠0
   ·have e3:((T.size:Int) != 0)=true:=by rw[bne_iff_ne];omega
    have HV:Hid (V=false):=HTXF.out (by rw[HTX.out,beq_eq_false_iff_ne];exact c3)
    clear c3
    go_wp2
    all_goals go_ret
    all_goals exact⟨by rw[HV.out];rfl,HB.out⟩
   have c3:T.size=0:=by omega
   have e3:((T.size:Int) != 0)=false:=by rw[bne_eq_false_iff_eq];omega
   have HVT:Hid (vTx ⟨11,N,T,M,Y,C⟩=true):=by show _=_;rw[HTX.out,beq_iff_eq];exact c3
   clear c3
   by_cases c4:0≤N
   ·have d4:decide ((0:Int)≤N)=true:=decide_eq_true c4
    have HV:Hid (V=decide (N≤3)):=HOKF.out HVT.out HVY.out HVN.out c4
    clear c4
    go_wp2
    all_goals go_ret
    all_goals exact⟨by rw[HV.out];rfl,HB.out⟩
   ·have d4:decide ((0:Int)≤N)=false:=decide_eq_false c4
    have HV:Hid (V=false):=HLOF.out (by omega)
    clear c4
    go_wp2
    all_goals go_ret
    all_goals exact⟨by rw[HV.out];rfl,HB.out⟩
set_option maxHeartbeats 4000000 in
set_option maxRecDepth 1000000 in
theorem fields_12 (N C:Int)(T:ByteArray)(M:List ByteArray)(Y:List Int)(vt vn vy:Value)(w:World)(h:NV w ⟨12,N,T,M,Y,C⟩ vt vn vy)(hb:NB ⟨12,N,T,M,Y,C⟩):
 Calls Tryz.prog 70 #[.agg #[.int .i64 12,.int .i64 N,vt,vn,vy,.int .i64 C]] w fun e w'=>e = .returned (.bool (vFd ⟨12,N,T,M,Y,C⟩))∧Below w.heap.size w w':=by
 obtain⟨W1,hW1⟩:∃W1,w.alloc (.cells #[.int .i64 12,.int .i64 N,vt,vn,vy,.int .i64 C] 51)=W1:=⟨_,rfl⟩
 have hB1:Below w.heap.size w W1:=by rw[← hW1];exact (Below.refl _ _).alloc (Nat.le_refl _) _
 have hBk:Blk W1 w.heap.size 51 #[.int .i64 12,.int .i64 N,vt,vn,vy,.int .i64 C]:=by rw[← hW1];exact Blk.new _ _ _
 have hnO:nOf ⟨12,N,T,M,Y,C⟩=0:=rfl
 have hgN:gNk 12=3:=rfl
 have HTX:Hid (vTx ⟨12,N,T,M,Y,C⟩=(T.size==0)):=by show _=_;unfold vTx;rw[if_neg (show ¬(12:Int)=17 from by decide)]
 have HTY:Hid (vTy ⟨12,N,T,M,Y,C⟩=(Y.length==0)):=by show _=_;unfold vTy;rw[if_neg (show ¬(12:Int)=1 from by decide)]
 have HNS:Hid (vNs ⟨12,N,T,M,Y,C⟩=(((M.length:Int)==0)&&M.all vNm)):=by show (((M.length:Int)==nOf ⟨12,N,T,M,Y,C⟩)&&M.all vNm)=_;rw[hnO]
 have HTXF:=hide (vfd_tx (d:=⟨12,N,T,M,Y,C⟩))
 have HTYF:=hide (vfd_ty (d:=⟨12,N,T,M,Y,C⟩))
 have HNSF:=hide (vfd_ns (d:=⟨12,N,T,M,Y,C⟩))
 have HLOF:=hide (vfd_lo (d:=⟨12,N,T,M,Y,C⟩))
 have HOKF:=hide (vfd_ok (d:=⟨12,N,T,M,Y,C⟩))
 simp only[hgN]at HOKF
 simp only at HLOF
 obtain⟨V,hV⟩:∃V,vFd ⟨12,N,T,M,Y,C⟩=V:=⟨_,rfl⟩
 rw[hV]at HTXF HTYF HNSF HLOF HOKF ⊢
 have HE:=hide hb.each
 have hyl:=hb.types
 have hml:=hb.names
 have htl:=hb.text
 obtain⟨ay,by_,oy,cy,hvy,hay,hcy⟩:=h.types
 obtain⟨an,bn,on,cn,hvn,han,hcn⟩:=h.names
 obtain⟨at_,bt,ot,ct,hvt,hat,hct⟩:=h.text
 simp only at hvy hvn hvt hay han hat hcy hcn hct hyl hml htl HE
 subst hvy hvn hvt
 have HC:=hide hcn
 have HW:=hide hW1
 have HB1:=hide hB1
 have HBK:=hide hBk
 have b0:=HBK.out.cell 0
 have b1:=HBK.out.cell 1
 have b2:=HBK.out.cell 2
 have b3:=HBK.out.cell 3
 have b4:=HBK.out.cell 4
 simp only[List.getElem?_toArray,List.getElem?_cons_succ,List.getElem?_cons_zero]at b0 b1 b2 b3 b4
 clear hW1 hB1 hBk hcy hct hcn hat hay h hb hnO hgN hV
 by_cases c1:Y.length≠0
 ·have e1:((Y.length:Int) != 0)=true:=by rw[bne_iff_ne];omega
  have HV:Hid (V=false):=HTYF.out (by rw[HTY.out,beq_eq_false_iff_ne];exact c1)
  clear c1
  go_enter Tryz.func70,Tryz.ntmps70
  go_wp2_with fail
  rw[HW.out]
  go_wp2
  all_goals go_ret
  all_goals exact⟨by rw[HV.out];rfl,HB1.out⟩
 have c1:Y.length=0:=by omega
 have HVY:Hid (vTy ⟨12,N,T,M,Y,C⟩=true):=by show _=_;rw[HTY.out,beq_iff_eq];exact c1
 have e1:((Y.length:Int) != 0)=false:=by rw[bne_eq_false_iff_eq];omega
 by_cases c2:M.length≠0
 ·have e2:((M.length:Int) != 0)=true:=by rw[bne_iff_ne];omega
  have HV:Hid (V=false):=HNSF.out (by rw[HNS.out,beq_eq_false_iff_ne.2 (show ¬(M.length:Int)=0 by omega),Bool.false_and])
  clear c1 c2
  go_enter Tryz.func70,Tryz.ntmps70
  go_wp2_with fail
  rw[HW.out]
  go_wp2
  all_goals go_ret
  all_goals exact⟨by rw[HV.out];rfl,HB1.out⟩
 have c2:M.length=0:=by omega
 have e2:((M.length:Int) != 0)=false:=by rw[bne_eq_false_iff_eq];omega
 have HNS2:Hid (vNs ⟨12,N,T,M,Y,C⟩=M.all vNm):=by show _=_;rw[HNS.out,beq_iff_eq.2 (show (M.length:Int)=0 by omega),Bool.true_and]
 have HQ:Hid (M.length=0):=c2
 clear c1 c2
 go_enter Tryz.func70,Tryz.ntmps70
 go_wp2_with fail
 rw[HW.out]
 go_wp2
 go_loopw [5] (fun ix wr=>∃k:Nat,k≤M.length∧ix = .int .i64 k∧(M.drop k).all vNm=M.all vNm∧Below w.heap.size w wr∧Below W1.heap.size W1 wr) (fun ix _=>M.length - (intOf ix).toNat)
 case atStart=>exact⟨0,Nat.zero_le _,rfl,rfl,HB1.out,Below.refl _ _⟩
 case round=>
  obtain⟨k,hk,rfl,hok,hb,hb1⟩:=hrel
  have HB:=hide hb
  have HBW:=hide hb1
  have q0:=cell_kept b0 hb1
  have q1:=cell_kept b1 hb1
  have q2:=cell_kept b2 hb1
  have q3:=cell_kept b3 hb1
  by_cases hlt:k<M.length
  ·have:=HQ.out;omega
  ·have hlq:decide ((k:Int)<0)=false:=decide_eq_false (by have:=HQ.out;omega)
   have HVN:Hid (vNs ⟨12,N,T,M,Y,C⟩=true):=by show _=_;rw[HNS2.out,← hok,show k=M.length by omega,List.drop_length];rfl
   clear hok hb hb1 hlt hk
   by_cases c3:T.size≠0
   ·have e3:((T.size:Int) != 0)=true:=by rw[bne_iff_ne];omega
    have HV:Hid (V=false):=HTXF.out (by rw[HTX.out,beq_eq_false_iff_ne];exact c3)
    clear c3
    go_wp2
    all_goals go_ret
    all_goals exact⟨by rw[HV.out];rfl,HB.out⟩
   have c3:T.size=0:=by omega
   have e3:((T.size:Int) != 0)=false:=by rw[bne_eq_false_iff_eq];omega
   have HVT:Hid (vTx ⟨12,N,T,M,Y,C⟩=true):=by show _=_;rw[HTX.out,beq_iff_eq];exact c3
   clear c3
   by_cases c4:0≤N
   ·have d4:decide ((0:Int)≤N)=true:=decide_eq_true c4
    have HV:Hid (V=decide (N≤3)):=HOKF.out HVT.out HVY.out HVN.out c4
    clear c4
    go_wp2
    all_goals go_ret
    all_goals exact⟨by rw[HV.out];rfl,HB.out⟩
   ·have d4:decide ((0:Int)≤N)=false:=decide_eq_false c4
    have HV:Hid (V=false):=HLOF.out (by omega)
    clear c4
    go_wp2
    all_goals go_ret
    all_goals exact⟨by rw[HV.out];rfl,HB.out⟩
set_option maxHeartbeats 4000000 in
set_option maxRecDepth 1000000 in
theorem fields_16 (N C:Int)(T:ByteArray)(M:List ByteArray)(Y:List Int)(vt vn vy:Value)(w:World)(h:NV w ⟨16,N,T,M,Y,C⟩ vt vn vy)(hb:NB ⟨16,N,T,M,Y,C⟩):
 Calls Tryz.prog 70 #[.agg #[.int .i64 16,.int .i64 N,vt,vn,vy,.int .i64 C]] w fun e w'=>e = .returned (.bool (vFd ⟨16,N,T,M,Y,C⟩))∧Below w.heap.size w w':=by
 obtain⟨W1,hW1⟩:∃W1,w.alloc (.cells #[.int .i64 16,.int .i64 N,vt,vn,vy,.int .i64 C] 51)=W1:=⟨_,rfl⟩
 have hB1:Below w.heap.size w W1:=by rw[← hW1];exact (Below.refl _ _).alloc (Nat.le_refl _) _
 have hBk:Blk W1 w.heap.size 51 #[.int .i64 16,.int .i64 N,vt,vn,vy,.int .i64 C]:=by rw[← hW1];exact Blk.new _ _ _
 have hnO:nOf ⟨16,N,T,M,Y,C⟩=0:=rfl
 have hgN:gNk 16=99999:=rfl
 have HTX:Hid (vTx ⟨16,N,T,M,Y,C⟩=(T.size==0)):=by show _=_;unfold vTx;rw[if_neg (show ¬(16:Int)=17 from by decide)]
 have HTY:Hid (vTy ⟨16,N,T,M,Y,C⟩=(Y.length==0)):=by show _=_;unfold vTy;rw[if_neg (show ¬(16:Int)=1 from by decide)]
 have HNS:Hid (vNs ⟨16,N,T,M,Y,C⟩=(((M.length:Int)==0)&&M.all vNm)):=by show (((M.length:Int)==nOf ⟨16,N,T,M,Y,C⟩)&&M.all vNm)=_;rw[hnO]
 have HTXF:=hide (vfd_tx (d:=⟨16,N,T,M,Y,C⟩))
 have HTYF:=hide (vfd_ty (d:=⟨16,N,T,M,Y,C⟩))
 have HNSF:=hide (vfd_ns (d:=⟨16,N,T,M,Y,C⟩))
 have HLOF:=hide (vfd_lo (d:=⟨16,N,T,M,Y,C⟩))
 have HOKF:=hide (vfd_ok (d:=⟨16,N,T,M,Y,C⟩))
 simp only[hgN]at HOKF
 simp only at HLOF
 obtain⟨V,hV⟩:∃V,vFd ⟨16,N,T,M,Y,C⟩=V:=⟨_,rfl⟩
 rw[hV]at HTXF HTYF HNSF HLOF HOKF ⊢
 have HE:=hide hb.each
 have hyl:=hb.types
 have hml:=hb.names
 have htl:=hb.text
 obtain⟨ay,by_,oy,cy,hvy,hay,hcy⟩:=h.types
 obtain⟨an,bn,on,cn,hvn,han,hcn⟩:=h.names
 obtain⟨at_,bt,ot,ct,hvt,hat,hct⟩:=h.text
 simp only at hvy hvn hvt hay han hat hcy hcn hct hyl hml htl HE
 subst hvy hvn hvt
 have HC:=hide hcn
 have HW:=hide hW1
 have HB1:=hide hB1
 have HBK:=hide hBk
 have b0:=HBK.out.cell 0
 have b1:=HBK.out.cell 1
 have b2:=HBK.out.cell 2
 have b3:=HBK.out.cell 3
 have b4:=HBK.out.cell 4
 simp only[List.getElem?_toArray,List.getElem?_cons_succ,List.getElem?_cons_zero]at b0 b1 b2 b3 b4
 clear hW1 hB1 hBk hcy hct hcn hat hay h hb hnO hgN hV
 by_cases c1:Y.length≠0
 ·have e1:((Y.length:Int) != 0)=true:=by rw[bne_iff_ne];omega
  have HV:Hid (V=false):=HTYF.out (by rw[HTY.out,beq_eq_false_iff_ne];exact c1)
  clear c1
  go_enter Tryz.func70,Tryz.ntmps70
  go_wp2_with fail
  rw[HW.out]
  go_wp2
  all_goals go_ret
  all_goals exact⟨by rw[HV.out];rfl,HB1.out⟩
 have c1:Y.length=0:=by omega
 have HVY:Hid (vTy ⟨16,N,T,M,Y,C⟩=true):=by show _=_;rw[HTY.out,beq_iff_eq];exact c1
 have e1:((Y.length:Int) != 0)=false:=by rw[bne_eq_false_iff_eq];omega
 by_cases c2:M.length≠0
 ·have e2:((M.length:Int) != 0)=true:=by rw[bne_iff_ne];omega
  have HV:Hid (V=false):=HNSF.out (by rw[HNS.out,beq_eq_false_iff_ne.2 (show ¬(M.length:Int)=0 by omega),Bool.false_and])
  clear c1 c2
  go_enter Tryz.func70,Tryz.ntmps70
  go_wp2_with fail
  rw[HW.out]
  go_wp2
  all_goals go_ret
  all_goals exact⟨by rw[HV.out];rfl,HB1.out⟩
 have c2:M.length=0:=by omega
 have e2:((M.length:Int) != 0)=false:=by rw[bne_eq_false_iff_eq];omega
 have HNS2:Hid (vNs ⟨16,N,T,M,Y,C⟩=M.all vNm):=by show _=_;rw[HNS.out,beq_iff_eq.2 (show (M.length:Int)=0 by omega),Bool.true_and]
 have HQ:Hid (M.length=0):=c2
 clear c1 c2
 go_enter Tryz.func70,Tryz.ntmps70
 go_wp2_with fail
 rw[HW.out]
 go_wp2
 go_loopw [5] (fun ix wr=>∃k:Nat,k≤M.length∧ix = .int .i64 k∧(M.drop k).all vNm=M.all vNm∧Below w.heap.size w wr∧Below W1.heap.size W1 wr) (fun ix _=>M.length - (intOf ix).toNat)
 case atStart=>exact⟨0,Nat.zero_le _,rfl,rfl,HB1.out,Below.refl _ _⟩
 case round=>
  obtain⟨k,hk,rfl,hok,hb,hb1⟩:=hrel
  have HB:=hide hb
  have HBW:=hide hb1
  have q0:=cell_kept b0 hb1
  have q1:=cell_kept b1 hb1
  have q2:=cell_kept b2 hb1
  have q3:=cell_kept b3 hb1
  by_cases hlt:k<M.length
  ·have:=HQ.out;omega
  ·have hlq:decide ((k:Int)<0)=false:=decide_eq_false (by have:=HQ.out;omega)
   have HVN:Hid (vNs ⟨16,N,T,M,Y,C⟩=true):=by show _=_;rw[HNS2.out,← hok,show k=M.length by omega,List.drop_length];rfl
   clear hok hb hb1 hlt hk
   by_cases c3:T.size≠0
   ·have e3:((T.size:Int) != 0)=true:=by rw[bne_iff_ne];omega
    have HV:Hid (V=false):=HTXF.out (by rw[HTX.out,beq_eq_false_iff_ne];exact c3)
    clear c3
    go_wp2
    all_goals go_ret
    all_goals exact⟨by rw[HV.out];rfl,HB.out⟩
   have c3:T.size=0:=by omega
   have e3:((T.size:Int) != 0)=false:=by rw[bne_eq_false_iff_eq];omega
   have HVT:Hid (vTx ⟨16,N,T,M,Y,C⟩=true):=by show _=_;rw[HTX.out,beq_iff_eq];exact c3
   clear c3
   by_cases c4:0≤N
   ·have d4:decide ((0:Int)≤N)=true:=decide_eq_true c4
    have HV:Hid (V=decide (N≤99999)):=HOKF.out HVT.out HVY.out HVN.out c4
    clear c4
    go_wp2
    all_goals go_ret
    all_goals exact⟨by rw[HV.out];rfl,HB.out⟩
   ·have d4:decide ((0:Int)≤N)=false:=decide_eq_false c4
    have HV:Hid (V=false):=HLOF.out (by omega)
    clear c4
    go_wp2
    all_goals go_ret
    all_goals exact⟨by rw[HV.out];rfl,HB.out⟩
set_option maxHeartbeats 4000000 in
set_option maxRecDepth 1000000 in
theorem fields_18 (N C:Int)(T:ByteArray)(M:List ByteArray)(Y:List Int)(vt vn vy:Value)(w:World)(h:NV w ⟨18,N,T,M,Y,C⟩ vt vn vy)(hb:NB ⟨18,N,T,M,Y,C⟩):
 Calls Tryz.prog 70 #[.agg #[.int .i64 18,.int .i64 N,vt,vn,vy,.int .i64 C]] w fun e w'=>e = .returned (.bool (vFd ⟨18,N,T,M,Y,C⟩))∧Below w.heap.size w w':=by
 obtain⟨W1,hW1⟩:∃W1,w.alloc (.cells #[.int .i64 18,.int .i64 N,vt,vn,vy,.int .i64 C] 51)=W1:=⟨_,rfl⟩
 have hB1:Below w.heap.size w W1:=by rw[← hW1];exact (Below.refl _ _).alloc (Nat.le_refl _) _
 have hBk:Blk W1 w.heap.size 51 #[.int .i64 18,.int .i64 N,vt,vn,vy,.int .i64 C]:=by rw[← hW1];exact Blk.new _ _ _
 have hnO:nOf ⟨18,N,T,M,Y,C⟩=0:=rfl
 have hgN:gNk 18=1:=rfl
 have HTX:Hid (vTx ⟨18,N,T,M,Y,C⟩=(T.size==0)):=by show _=_;unfold vTx;rw[if_neg (show ¬(18:Int)=17 from by decide)]
 have HTY:Hid (vTy ⟨18,N,T,M,Y,C⟩=(Y.length==0)):=by show _=_;unfold vTy;rw[if_neg (show ¬(18:Int)=1 from by decide)]
 have HNS:Hid (vNs ⟨18,N,T,M,Y,C⟩=(((M.length:Int)==0)&&M.all vNm)):=by show (((M.length:Int)==nOf ⟨18,N,T,M,Y,C⟩)&&M.all vNm)=_;rw[hnO]
 have HTXF:=hide (vfd_tx (d:=⟨18,N,T,M,Y,C⟩))
 have HTYF:=hide (vfd_ty (d:=⟨18,N,T,M,Y,C⟩))
 have HNSF:=hide (vfd_ns (d:=⟨18,N,T,M,Y,C⟩))
 have HLOF:=hide (vfd_lo (d:=⟨18,N,T,M,Y,C⟩))
 have HOKF:=hide (vfd_ok (d:=⟨18,N,T,M,Y,C⟩))
 simp only[hgN]at HOKF
 simp only at HLOF
 obtain⟨V,hV⟩:∃V,vFd ⟨18,N,T,M,Y,C⟩=V:=⟨_,rfl⟩
 rw[hV]at HTXF HTYF HNSF HLOF HOKF ⊢
 have HE:=hide hb.each
 have hyl:=hb.types
 have hml:=hb.names
 have htl:=hb.text
 obtain⟨ay,by_,oy,cy,hvy,hay,hcy⟩:=h.types
 obtain⟨an,bn,on,cn,hvn,han,hcn⟩:=h.names
 obtain⟨at_,bt,ot,ct,hvt,hat,hct⟩:=h.text
 simp only at hvy hvn hvt hay han hat hcy hcn hct hyl hml htl HE
 subst hvy hvn hvt
 have HC:=hide hcn
 have HW:=hide hW1
 have HB1:=hide hB1
 have HBK:=hide hBk
 have b0:=HBK.out.cell 0
 have b1:=HBK.out.cell 1
 have b2:=HBK.out.cell 2
 have b3:=HBK.out.cell 3
 have b4:=HBK.out.cell 4
 simp only[List.getElem?_toArray,List.getElem?_cons_succ,List.getElem?_cons_zero]at b0 b1 b2 b3 b4
 clear hW1 hB1 hBk hcy hct hcn hat hay h hb hnO hgN hV
 by_cases c1:Y.length≠0
 ·have e1:((Y.length:Int) != 0)=true:=by rw[bne_iff_ne];omega
  have HV:Hid (V=false):=HTYF.out (by rw[HTY.out,beq_eq_false_iff_ne];exact c1)
  clear c1
  go_enter Tryz.func70,Tryz.ntmps70
  go_wp2_with fail
  rw[HW.out]
  go_wp2
  all_goals go_ret
  all_goals exact⟨by rw[HV.out];rfl,HB1.out⟩
 have c1:Y.length=0:=by omega
 have HVY:Hid (vTy ⟨18,N,T,M,Y,C⟩=true):=by show _=_;rw[HTY.out,beq_iff_eq];exact c1
 have e1:((Y.length:Int) != 0)=false:=by rw[bne_eq_false_iff_eq];omega
 by_cases c2:M.length≠0
 ·have e2:((M.length:Int) != 0)=true:=by rw[bne_iff_ne];omega
  have HV:Hid (V=false):=HNSF.out (by rw[HNS.out,beq_eq_false_iff_ne.2 (show ¬(M.length:Int)=0 by omega),Bool.false_and])
  clear c1 c2
  go_enter Tryz.func70,Tryz.ntmps70
  go_wp2_with fail
  rw[HW.out]
  go_wp2
  all_goals go_ret
  all_goals exact⟨by rw[HV.out];rfl,HB1.out⟩
 have c2:M.length=0:=by omega
 have e2:((M.length:Int) != 0)=false:=by rw[bne_eq_false_iff_eq];omega
 have HNS2:Hid (vNs ⟨18,N,T,M,Y,C⟩=M.all vNm):=by show _=_;rw[HNS.out,beq_iff_eq.2 (show (M.length:Int)=0 by omega),Bool.true_and]
 have HQ:Hid (M.length=0):=c2
 clear c1 c2
 go_enter Tryz.func70,Tryz.ntmps70
 go_wp2_with fail
 rw[HW.out]
 go_wp2
 go_loopw [5] (fun ix wr=>∃k:Nat,k≤M.length∧ix = .int .i64 k∧(M.drop k).all vNm=M.all vNm∧Below w.heap.size w wr∧Below W1.heap.size W1 wr) (fun ix _=>M.length - (intOf ix).toNat)
 case atStart=>exact⟨0,Nat.zero_le _,rfl,rfl,HB1.out,Below.refl _ _⟩
 case round=>
  obtain⟨k,hk,rfl,hok,hb,hb1⟩:=hrel
  have HB:=hide hb
  have HBW:=hide hb1
  have q0:=cell_kept b0 hb1
  have q1:=cell_kept b1 hb1
  have q2:=cell_kept b2 hb1
  have q3:=cell_kept b3 hb1
  by_cases hlt:k<M.length
  ·have:=HQ.out;omega
  ·have hlq:decide ((k:Int)<0)=false:=decide_eq_false (by have:=HQ.out;omega)
   have HVN:Hid (vNs ⟨18,N,T,M,Y,C⟩=true):=by show _=_;rw[HNS2.out,← hok,show k=M.length by omega,List.drop_length];rfl
   clear hok hb hb1 hlt hk
   by_cases c3:T.size≠0
   ·have e3:((T.size:Int) != 0)=true:=by rw[bne_iff_ne];omega
    have HV:Hid (V=false):=HTXF.out (by rw[HTX.out,beq_eq_false_iff_ne];exact c3)
    clear c3
    go_wp2
    all_goals go_ret
    all_goals exact⟨by rw[HV.out];rfl,HB.out⟩
   have c3:T.size=0:=by omega
   have e3:((T.size:Int) != 0)=false:=by rw[bne_eq_false_iff_eq];omega
   have HVT:Hid (vTx ⟨18,N,T,M,Y,C⟩=true):=by show _=_;rw[HTX.out,beq_iff_eq];exact c3
   clear c3
   by_cases c4:0≤N
   ·have d4:decide ((0:Int)≤N)=true:=decide_eq_true c4
    have HV:Hid (V=decide (N≤1)):=HOKF.out HVT.out HVY.out HVN.out c4
    clear c4
    go_wp2
    all_goals go_ret
    all_goals exact⟨by rw[HV.out];rfl,HB.out⟩
   ·have d4:decide ((0:Int)≤N)=false:=decide_eq_false c4
    have HV:Hid (V=false):=HLOF.out (by omega)
    clear c4
    go_wp2
    all_goals go_ret
    all_goals exact⟨by rw[HV.out];rfl,HB.out⟩
set_option maxHeartbeats 4000000 in
set_option maxRecDepth 1000000 in
theorem fields_20 (N C:Int)(T:ByteArray)(M:List ByteArray)(Y:List Int)(vt vn vy:Value)(w:World)(h:NV w ⟨20,N,T,M,Y,C⟩ vt vn vy)(hb:NB ⟨20,N,T,M,Y,C⟩):
 Calls Tryz.prog 70 #[.agg #[.int .i64 20,.int .i64 N,vt,vn,vy,.int .i64 C]] w fun e w'=>e = .returned (.bool (vFd ⟨20,N,T,M,Y,C⟩))∧Below w.heap.size w w':=by
 obtain⟨W1,hW1⟩:∃W1,w.alloc (.cells #[.int .i64 20,.int .i64 N,vt,vn,vy,.int .i64 C] 51)=W1:=⟨_,rfl⟩
 have hB1:Below w.heap.size w W1:=by rw[← hW1];exact (Below.refl _ _).alloc (Nat.le_refl _) _
 have hBk:Blk W1 w.heap.size 51 #[.int .i64 20,.int .i64 N,vt,vn,vy,.int .i64 C]:=by rw[← hW1];exact Blk.new _ _ _
 have hnO:nOf ⟨20,N,T,M,Y,C⟩=0:=rfl
 have hgN:gNk 20=13:=rfl
 have HTX:Hid (vTx ⟨20,N,T,M,Y,C⟩=(T.size==0)):=by show _=_;unfold vTx;rw[if_neg (show ¬(20:Int)=17 from by decide)]
 have HTY:Hid (vTy ⟨20,N,T,M,Y,C⟩=(Y.length==0)):=by show _=_;unfold vTy;rw[if_neg (show ¬(20:Int)=1 from by decide)]
 have HNS:Hid (vNs ⟨20,N,T,M,Y,C⟩=(((M.length:Int)==0)&&M.all vNm)):=by show (((M.length:Int)==nOf ⟨20,N,T,M,Y,C⟩)&&M.all vNm)=_;rw[hnO]
 have HTXF:=hide (vfd_tx (d:=⟨20,N,T,M,Y,C⟩))
 have HTYF:=hide (vfd_ty (d:=⟨20,N,T,M,Y,C⟩))
 have HNSF:=hide (vfd_ns (d:=⟨20,N,T,M,Y,C⟩))
 have HLOF:=hide (vfd_lo (d:=⟨20,N,T,M,Y,C⟩))
 have HOKF:=hide (vfd_ok (d:=⟨20,N,T,M,Y,C⟩))
 simp only[hgN]at HOKF
 simp only at HLOF
 obtain⟨V,hV⟩:∃V,vFd ⟨20,N,T,M,Y,C⟩=V:=⟨_,rfl⟩
 rw[hV]at HTXF HTYF HNSF HLOF HOKF ⊢
 have HE:=hide hb.each
 have hyl:=hb.types
 have hml:=hb.names
 have htl:=hb.text
 obtain⟨ay,by_,oy,cy,hvy,hay,hcy⟩:=h.types
 obtain⟨an,bn,on,cn,hvn,han,hcn⟩:=h.names
 obtain⟨at_,bt,ot,ct,hvt,hat,hct⟩:=h.text
 simp only at hvy hvn hvt hay han hat hcy hcn hct hyl hml htl HE
 subst hvy hvn hvt
 have HC:=hide hcn
 have HW:=hide hW1
 have HB1:=hide hB1
 have HBK:=hide hBk
 have b0:=HBK.out.cell 0
 have b1:=HBK.out.cell 1
 have b2:=HBK.out.cell 2
 have b3:=HBK.out.cell 3
 have b4:=HBK.out.cell 4
 simp only[List.getElem?_toArray,List.getElem?_cons_succ,List.getElem?_cons_zero]at b0 b1 b2 b3 b4
 clear hW1 hB1 hBk hcy hct hcn hat hay h hb hnO hgN hV
 by_cases c1:Y.length≠0
 ·have e1:((Y.length:Int) != 0)=true:=by rw[bne_iff_ne];omega
  have HV:Hid (V=false):=HTYF.out (by rw[HTY.out,beq_eq_false_iff_ne];exact c1)
  clear c1
  go_enter Tryz.func70,Tryz.ntmps70
  go_wp2_with fail
  rw[HW.out]
  go_wp2
  all_goals go_ret
  all_goals exact⟨by rw[HV.out];rfl,HB1.out⟩
 have c1:Y.length=0:=by omega
 have HVY:Hid (vTy ⟨20,N,T,M,Y,C⟩=true):=by show _=_;rw[HTY.out,beq_iff_eq];exact c1
 have e1:((Y.length:Int) != 0)=false:=by rw[bne_eq_false_iff_eq];omega
 by_cases c2:M.length≠0
 ·have e2:((M.length:Int) != 0)=true:=by rw[bne_iff_ne];omega
  have HV:Hid (V=false):=HNSF.out (by rw[HNS.out,beq_eq_false_iff_ne.2 (show ¬(M.length:Int)=0 by omega),Bool.false_and])
  clear c1 c2
  go_enter Tryz.func70,Tryz.ntmps70
  go_wp2_with fail
  rw[HW.out]
  go_wp2
  all_goals go_ret
  all_goals exact⟨by rw[HV.out];rfl,HB1.out⟩
 have c2:M.length=0:=by omega
 have e2:((M.length:Int) != 0)=false:=by rw[bne_eq_false_iff_eq];omega
 have HNS2:Hid (vNs ⟨20,N,T,M,Y,C⟩=M.all vNm):=by show _=_;rw[HNS.out,beq_iff_eq.2 (show (M.length:Int)=0 by omega),Bool.true_and]
 have HQ:Hid (M.length=0):=c2
 clear c1 c2
 go_enter Tryz.func70,Tryz.ntmps70
 go_wp2_with fail
 rw[HW.out]
 go_wp2
 go_loopw [5] (fun ix wr=>∃k:Nat,k≤M.length∧ix = .int .i64 k∧(M.drop k).all vNm=M.all vNm∧Below w.heap.size w wr∧Below W1.heap.size W1 wr) (fun ix _=>M.length - (intOf ix).toNat)
 case atStart=>exact⟨0,Nat.zero_le _,rfl,rfl,HB1.out,Below.refl _ _⟩
 case round=>
  obtain⟨k,hk,rfl,hok,hb,hb1⟩:=hrel
  have HB:=hide hb
  have HBW:=hide hb1
  have q0:=cell_kept b0 hb1
  have q1:=cell_kept b1 hb1
  have q2:=cell_kept b2 hb1
  have q3:=cell_kept b3 hb1
  by_cases hlt:k<M.length
  ·have:=HQ.out;omega
  ·have hlq:decide ((k:Int)<0)=false:=decide_eq_false (by have:=HQ.out;omega)
   have HVN:Hid (vNs ⟨20,N,T,M,Y,C⟩=true):=by show _=_;rw[HNS2.out,← hok,show k=M.length by omega,List.drop_length];rfl
   clear hok hb hb1 hlt hk
   by_cases c3:T.size≠0
   ·have e3:((T.size:Int) != 0)=true:=by rw[bne_iff_ne];omega
    have HV:Hid (V=false):=HTXF.out (by rw[HTX.out,beq_eq_false_iff_ne];exact c3)
    clear c3
    go_wp2
    all_goals go_ret
    all_goals exact⟨by rw[HV.out];rfl,HB.out⟩
   have c3:T.size=0:=by omega
   have e3:((T.size:Int) != 0)=false:=by rw[bne_eq_false_iff_eq];omega
   have HVT:Hid (vTx ⟨20,N,T,M,Y,C⟩=true):=by show _=_;rw[HTX.out,beq_iff_eq];exact c3
   clear c3
   by_cases c4:0≤N
   ·have d4:decide ((0:Int)≤N)=true:=decide_eq_true c4
    have HV:Hid (V=decide (N≤13)):=HOKF.out HVT.out HVY.out HVN.out c4
    clear c4
    go_wp2
    all_goals go_ret
    all_goals exact⟨by rw[HV.out];rfl,HB.out⟩
   ·have d4:decide ((0:Int)≤N)=false:=decide_eq_false c4
    have HV:Hid (V=false):=HLOF.out (by omega)
    clear c4
    go_wp2
    all_goals go_ret
    all_goals exact⟨by rw[HV.out];rfl,HB.out⟩
end Go.Proofs.YtbiakdjpeblclaaGreatDoor

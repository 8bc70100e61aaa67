/-
  The walk of spec.l1good at any slice.
-/
import Derived.Test.YtbiakdjpeblclaaGreatDoorJPaO1
import Derived.Test.YtbiakdjpeblclaaGreatDoorJPaT
import Derived.Test.YtbiakdjpeblclaaGreatDoorJPaLX
import Derived.Test.YtbiakdjpeblclaaGreatDoorJPaRH
import Derived.Test.YtbiakdjpeblclaaGreatDoorJPaPRS
namespace Go.Proofs.YtbiakdjpeblclaaGreatDoor
open Go.RowKit
set_option maxHeartbeats 400000 in
theorem specCheck_none (a:Option Addr)(c:Nat)(w:World):
 Calls Tryz.prog 32 #[.slice a 0 c] w fun e w'=>e = .returned (.tuple #[.int .i64 0,.int .i64 0])∧Below w.heap.size w w':=by
 go_enter Tryz.func32,Tryz.ntmps32
 go_wp2
 go_loopw [4] (fun i wr=>i = .int .i64 0∧wr=w) (fun _ _=>0)
 case atStart=>exact⟨rfl,rfl⟩
 case round=>
  obtain⟨rfl,rfl⟩:=hrel
  go_wp2
  go_ret2
  exact⟨rfl,Below.refl _ _⟩
set_option maxHeartbeats 400000 in
theorem good_bs {w:World}{v:Value}{s:ByteArray}(hs:s.size≤1048576)(h:BS w v s):
 Calls Tryz.prog 98 #[v] w fun e w'=>e = .returned (.bool (((chk s).1:Int)==0))∧Below w.heap.size w w':=by
 obtain⟨a,b,o,c,rfl,ha,hc⟩:=h
 by_cases h0:0<s.size
 ·obtain rfl:=ha h0
  exact good_any b o c s w hs hc
 ·have e:s=ByteArray.empty:=ext_bytes (show s.size=0 by omega) (fun j hj=>by omega)
  subst e
  have H:=hide (specCheck_none a c w)
  have e2:(((chk ByteArray.empty).1:Int)==0)=true:=by decide
  rw[e2]
  have e3:ByteArray.empty.size=0:=rfl
  rw[e3]
  clear ha hc h0 e2 e3 hs
  go_enter Tryz.func98,Tryz.ntmps98
  go_wp2_with (go_at_call 32;refine H.out.mono ?_;rintro e w1 ⟨rfl,hb1⟩)
  go_ret
  exact⟨rfl,hb1⟩
def wc : Array Value:=(wl.map fun l=>Value.string ⟨l.toArray⟩).toArray
theorem wc_at (j:Nat)(h:j<26):wc[j]?=some (.string ⟨(wl.getD j []).toArray⟩):=by
 have h':j<wl.length:=h
 unfold wc
 rw[List.getElem?_toArray,List.getElem?_map]
 simp[List.getD,List.getElem?_eq_getElem h']
set_option maxHeartbeats 1000000 in
set_option maxRecDepth 1000000 in
theorem words_any (w:World):
 Calls Tryz.prog 94 #[] w fun e w'=>∃g,e = .returned (.slice (some ⟨g,0,none⟩) 26 26)∧(∀j,j<26→w'.cell? ⟨g,j,none⟩=some (.string ⟨(wl.getD j []).toArray⟩))∧Below w.heap.size w w':=by
 go_enter Tryz.func94,Tryz.ntmps94
 go_wp2
 go_ret
 exact⟨w.heap.size,rfl,fun j hj=>(cell_fresh w wc 9 j).trans (wc_at j hj),(Below.refl _ _).alloc (Nat.le_refl _) _⟩
theorem isW_yes {s:ByteArray}{n:Nat}(hn:n<26)(h:wl.getD n []=s.toList):isW s=true:=by
 have h':n<wl.length:=hn
 unfold isW
 rw[List.contains_iff_mem,← h]
 simp[List.getD,List.getElem?_eq_getElem h']
theorem isW_no {s:ByteArray}(h:∀j,j<26→wl.getD j []≠s.toList):isW s=false:=by
 unfold isW
 rw[Bool.eq_false_iff]
 intro g
 rw[List.contains_iff_mem]at g
 obtain⟨j,hj,e⟩:=List.getElem_of_mem g
 exact h j hj (by simp[List.getD,List.getElem?_eq_getElem hj,e])
set_option maxHeartbeats 1000000 in
set_option maxRecDepth 1000000 in
theorem isWord_any (s:ByteArray)(w:World):
 Calls Tryz.prog 61 #[.string s] w fun e w'=>e = .returned (.bool (isW s))∧Below w.heap.size w w':=by
 have HW:=hide (words_any w)
 go_enter Tryz.func61,Tryz.ntmps61
 go_wp2_with fail
 refine HW.out.mono ?_
 rintro e w1 ⟨g,rfl,hcs,hb⟩
 have HCS:=hide hcs
 have HB:=hide hb
 clear hcs hb
 go_wp2
 go_loopw [4] (fun ix wr=>∃n:Nat,ix = .int .i64 n∧n≤26∧(∀j,j<n→wl.getD j []≠s.toList)∧wr=w1) (fun ix _=>26 - (intOf ix).toNat)
 case atStart=>exact⟨0,rfl,by omega,fun j hj=>absurd hj (Nat.not_lt_zero _),rfl⟩
 case round=>
  obtain⟨n,rfl,hn,hall,rfl⟩:=hrel
  have HALL:=hide hall
  clear hall
  by_cases hlt:n<26
  ·have g1:=HCS.out n hlt
   obtain⟨x,hx⟩:∃x:ByteArray,(⟨(wl.getD n []).toArray⟩:ByteArray)=x:=⟨_,rfl⟩
   have HX:Hid (x.toList=wl.getD n []):=by show _=_;rw[← hx,Lib.toList_data]
   rw[hx]at g1
   clear hx
   have hlti:(n:Int)<26:=by omega
   by_cases he:x.toList=s.toList
   ·have t1:(x.toList==s.toList)=true:=by rw[beq_iff_eq];exact he
    have HR:Hid (isW s=true):=isW_yes hlt (by rw[← HX.out];exact he)
    clear he
    go_wp2
    go_ret
    exact⟨by rw[HR.out];rfl,HB.out⟩
   ·have t1:(x.toList==s.toList)=false:=by rw[beq_eq_false_iff_ne];exact he
    have HE:Hid (wl.getD n []≠s.toList):=by show _≠_;rw[← HX.out];exact he
    clear he
    go_wp2
    go_roundw
    case rel=>exact⟨n+1,by go_num,by omega,fun j hj=>by
     by_cases e:j=n
     ·rw[e];exact HE.out
     ·exact HALL.out j (by omega),by first|rfl|trivial⟩
    case measure=>simp[intOf];omega
  ·have hlti:¬(n:Int)<26:=by omega
   have HR:Hid (isW s=false):=isW_no (fun j hj=>HALL.out j (by omega))
   go_wp2
   go_ret
   exact⟨by rw[HR.out];rfl,HB.out⟩
theorem pk_letter (s:ByteArray):(pk s==3)=isL (s.get! 0).toNat:=by
 unfold pk
 obtain⟨c,hc⟩:∃c,s.get! 0=c:=⟨_,rfl⟩
 rw[hc]
 have h47:c=47↔c.toNat=47:=⟨fun h=>by rw[h];rfl,fun h=>UInt8.toNat_inj.1 h⟩
 by_cases hL:isL c.toNat=true
 ·have h:=(isL_iff _).1 hL
  have hD:¬isD c.toNat=true:=fun h'=>by have:=(isD_iff _).1 h';omega
  rw[if_neg (by omega),if_neg (fun h'=>by have:=h47.1 h'.2.1;omega),if_neg (fun h'=>by have:=h47.1 h'.2.1;omega),if_neg hD,if_pos ((isR_iff _).2 (.inl hL)),hL];rfl
 ·have hL':isL c.toNat=false:=by simpa using hL
  rw[hL']
  split
  ·rfl
  split
  ·rfl
  split
  ·rfl
  split
  ·rfl
  rename_i h1 h2 h3 h4
  rw[if_neg (fun h'=>by rcases (isR_iff _).1 h' with g|g<;>contradiction)]
  split<;>rfl
theorem vNm_eq (s:ByteArray):vNm s=(decide (0<s.size)&&(decide (s.size≤30)&&(isL (s.get! 0).toNat&&(run s 0==s.size&& !isW s)))):=by
 unfold vNm;rw[pk_letter,← Bool.and_assoc,Bool.and_comm (decide (s.size≤30)),Bool.and_assoc]
set_option maxHeartbeats 1000000 in
set_option maxRecDepth 1000000 in
theorem l2name_any (v:Value)(s:ByteArray)(w:World)(hv:BS w v s)(hl:s.size≤1048576):
 Calls Tryz.prog 97 #[v] w fun e w'=>e = .returned (.bool (vNm s))∧Below w.heap.size w w':=by
 have hcv:=toStr_bs hv
 obtain⟨a,b,o,c,rfl,ha,hc⟩:=hv
 have HN:=hide (vNm_eq s)
 by_cases h0:0<s.size
 ·have d0:decide ((0:Int)<(s.size:Int))=true:=decide_eq_true (by omega)
  obtain rfl:=ha h0
  by_cases h30:s.size≤30
  ·have d1:decide ((s.size:Int)≤30)=true:=decide_eq_true (by omega)
   rw[decide_eq_true h0,decide_eq_true h30,Bool.true_and,Bool.true_and]at HN
   have g0:w.cell? ⟨b,o,none⟩=some (bts s 0):=hc 0 h0
   have HR:=hide (run_any b o c 0 s w hl (Nat.zero_le _) hc)
   have HL:=hide (letter_any (s.get! 0).toNat w (UInt8.toNat_lt _))
   have HW:=hide (fun w=>isWord_any s w)
   unfold bts at g0
   obtain⟨x,hx⟩:∃x,(s.get! 0).toNat=x:=⟨_,rfl⟩
   obtain⟨R,hR⟩:∃R,run s 0=R:=⟨_,rfl⟩
   obtain⟨V,hV⟩:∃V,vNm s=V:=⟨_,rfl⟩
   rw[hx]at g0 HL HN
   rw[hR]at HR HN
   rw[hV]at HN ⊢
   obtain⟨Lt,hLt⟩:∃Lt,isL x=Lt:=⟨_,rfl⟩
   obtain⟨W,hW⟩:∃W,isW s=W:=⟨_,rfl⟩
   rw[hLt]at HL HN
   simp only[hW]at HW HN
   clear hx hR hV hLt hW hc ha h30
   cases Lt with
   |false=>
    rw[Bool.false_and]at HN
    go_enter Tryz.func97,Tryz.ntmps97
    go_wp2_with fail
    refine HL.out.mono ?_
    rintro e w1 ⟨rfl,rfl⟩
    go_wp2
    go_ret
    exact⟨by rw[HN.out];rfl,Below.refl _ _⟩
   |true=>
    rw[Bool.true_and]at HN
    by_cases c2:R=s.size
    ·have e2:((R:Int)==(s.size:Int))=true:=by rw[nat_beq,beq_iff_eq];exact c2
     rw[beq_iff_eq.2 c2,Bool.true_and]at HN
     clear c2
     go_enter Tryz.func97,Tryz.ntmps97
     go_wp2_with fail
     refine HL.out.mono ?_
     rintro e w1 ⟨rfl,rfl⟩
     go_wp2_with fail
     refine HR.out.mono ?_
     rintro e w2 ⟨rfl,rfl⟩
     go_wp2_with fail
     refine (HW.out _).mono ?_
     rintro e w3 ⟨rfl,hb3⟩
     have HB:=hide hb3
     clear hb3
     go_wp2
     go_ret
     exact⟨by rw[HN.out];rfl,HB.out⟩
    ·have e2:((R:Int)==(s.size:Int))=false:=by rw[nat_beq,beq_eq_false_iff_ne];exact c2
     rw[beq_eq_false_iff_ne.2 c2,Bool.false_and]at HN
     clear c2
     go_enter Tryz.func97,Tryz.ntmps97
     go_wp2_with fail
     refine HL.out.mono ?_
     rintro e w1 ⟨rfl,rfl⟩
     go_wp2_with fail
     refine HR.out.mono ?_
     rintro e w2 ⟨rfl,rfl⟩
     go_wp2
     go_ret
     exact⟨by rw[HN.out];rfl,Below.refl _ _⟩
  ·have d1:decide ((s.size:Int)≤30)=false:=decide_eq_false (by omega)
   rw[decide_eq_false h30,Bool.false_and,Bool.and_false]at HN
   clear hc ha h30 hcv
   go_enter Tryz.func97,Tryz.ntmps97
   go_wp2
   go_ret
   exact⟨by rw[HN.out];rfl,Below.refl _ _⟩
 ·have d0:decide ((0:Int)<(s.size:Int))=false:=decide_eq_false (by omega)
  rw[decide_eq_false h0,Bool.false_and]at HN
  have e0:s.size=0:=by omega
  clear hc ha h0 hcv d0 hl
  go_enter Tryz.func97,Tryz.ntmps97
  go_wp2
  go_ret
  exact⟨by rw[HN.out];rfl,Below.refl _ _⟩
theorem vfd_ty {d:Nd}(h:vTy d=false):vFd d=false:=by unfold vFd;rw[h];simp
theorem vfd_ns {d:Nd}(h:vNs d=false):vFd d=false:=by unfold vFd;rw[h];simp
theorem vfd_tx {d:Nd}(h:vTx d=false):vFd d=false:=by unfold vFd;rw[h];simp
theorem vfd_lo {d:Nd}(h:¬0≤d.n):vFd d=false:=by unfold vFd;rw[decide_eq_false h];simp
theorem vfd_ok {d:Nd}(h1:vTx d=true)(h2:vTy d=true)(h3:vNs d=true)(h4:0≤d.n):vFd d=decide (d.n≤gNk d.kind):=by unfold vFd;rw[h1,h2,h3,decide_eq_true h4];simp
set_option maxHeartbeats 4000000 in
set_option maxRecDepth 1000000 in
theorem fields_3 (N C:Int)(T:ByteArray)(M:List ByteArray)(Y:List Int)(vt vn vy:Value)(w:World)(h:NV w ⟨3,N,T,M,Y,C⟩ vt vn vy)(hb:NB ⟨3,N,T,M,Y,C⟩):
 Calls Tryz.prog 70 #[.agg #[.int .i64 3,.int .i64 N,vt,vn,vy,.int .i64 C]] w fun e w'=>e = .returned (.bool (vFd ⟨3,N,T,M,Y,C⟩))∧Below w.heap.size w w':=by
 obtain⟨W1,hW1⟩:∃W1,w.alloc (.cells #[.int .i64 3,.int .i64 N,vt,vn,vy,.int .i64 C] 51)=W1:=⟨_,rfl⟩
 have hB1:Below w.heap.size w W1:=by rw[← hW1];exact (Below.refl _ _).alloc (Nat.le_refl _) _
 have hBk:Blk W1 w.heap.size 51 #[.int .i64 3,.int .i64 N,vt,vn,vy,.int .i64 C]:=by rw[← hW1];exact Blk.new _ _ _
 have hnO:nOf ⟨3,N,T,M,Y,C⟩=1:=rfl
 have hgN:gNk 3=0:=rfl
 have HTX:Hid (vTx ⟨3,N,T,M,Y,C⟩=(T.size==0)):=by show _=_;unfold vTx;rw[if_neg (show ¬(3:Int)=17 from by decide)]
 have HTY:Hid (vTy ⟨3,N,T,M,Y,C⟩=(Y.length==0)):=by show _=_;unfold vTy;rw[if_neg (show ¬(3:Int)=1 from by decide)]
 have HNS:Hid (vNs ⟨3,N,T,M,Y,C⟩=(((M.length:Int)==1)&&M.all vNm)):=by show (((M.length:Int)==nOf ⟨3,N,T,M,Y,C⟩)&&M.all vNm)=_;rw[hnO]
 have HTXF:=hide (vfd_tx (d:=⟨3,N,T,M,Y,C⟩))
 have HTYF:=hide (vfd_ty (d:=⟨3,N,T,M,Y,C⟩))
 have HNSF:=hide (vfd_ns (d:=⟨3,N,T,M,Y,C⟩))
 have HLOF:=hide (vfd_lo (d:=⟨3,N,T,M,Y,C⟩))
 have HOKF:=hide (vfd_ok (d:=⟨3,N,T,M,Y,C⟩))
 simp only[hgN]at HOKF
 simp only at HLOF
 obtain⟨V,hV⟩:∃V,vFd ⟨3,N,T,M,Y,C⟩=V:=⟨_,rfl⟩
 rw[hV]at HTXF HTYF HNSF HLOF HOKF ⊢
 have HE:=hide hb.each
 have hyl:=hb.types
 have hml:=hb.names
 have htl:=hb.text
 obtain⟨ay,by_,oy,cy,hvy,hay,hcy⟩:=h.types
 obtain⟨an,bn,on,cn,hvn,han,hcn⟩:=h.names
 obtain⟨at_,bt,ot,ct,hvt,hat,hct⟩:=h.text
 simp only at hvy hvn hvt hay han hat hcy hcn hct hyl hml htl HE
 subst hvy hvn hvt
 have HC:=hide hcn
 have HW:=hide hW1
 have HB1:=hide hB1
 have HBK:=hide hBk
 have b0:=HBK.out.cell 0
 have b1:=HBK.out.cell 1
 have b2:=HBK.out.cell 2
 have b3:=HBK.out.cell 3
 have b4:=HBK.out.cell 4
 simp only[List.getElem?_toArray,List.getElem?_cons_succ,List.getElem?_cons_zero]at b0 b1 b2 b3 b4
 clear hW1 hB1 hBk hcy hct hcn hat hay h hb hnO hgN hV
 by_cases c1:Y.length≠0
 ·have e1:((Y.length:Int) != 0)=true:=by rw[bne_iff_ne];omega
  have HV:Hid (V=false):=HTYF.out (by rw[HTY.out,beq_eq_false_iff_ne];exact c1)
  clear c1
  go_enter Tryz.func70,Tryz.ntmps70
  go_wp2_with fail
  rw[HW.out]
  go_wp2
  all_goals go_ret
  all_goals exact⟨by rw[HV.out];rfl,HB1.out⟩
 have c1:Y.length=0:=by omega
 have HVY:Hid (vTy ⟨3,N,T,M,Y,C⟩=true):=by show _=_;rw[HTY.out,beq_iff_eq];exact c1
 have e1:((Y.length:Int) != 0)=false:=by rw[bne_eq_false_iff_eq];omega
 by_cases c2:M.length≠1
 ·have e2:((M.length:Int) != 1)=true:=by rw[bne_iff_ne];omega
  have HV:Hid (V=false):=HNSF.out (by rw[HNS.out,beq_eq_false_iff_ne.2 (show ¬(M.length:Int)=1 by omega),Bool.false_and])
  clear c1 c2
  go_enter Tryz.func70,Tryz.ntmps70
  go_wp2_with fail
  rw[HW.out]
  go_wp2
  all_goals go_ret
  all_goals exact⟨by rw[HV.out];rfl,HB1.out⟩
 have c2:M.length=1:=by omega
 have e2:((M.length:Int) != 1)=false:=by rw[bne_eq_false_iff_eq];omega
 have HNS2:Hid (vNs ⟨3,N,T,M,Y,C⟩=M.all vNm):=by show _=_;rw[HNS.out,beq_iff_eq.2 (show (M.length:Int)=1 by omega),Bool.true_and]
 have HQ:Hid (M.length=1):=c2
 clear c1 c2
 go_enter Tryz.func70,Tryz.ntmps70
 go_wp2_with fail
 rw[HW.out]
 go_wp2
 go_loopw [5] (fun ix wr=>∃k:Nat,k≤M.length∧ix = .int .i64 k∧(M.drop k).all vNm=M.all vNm∧Below w.heap.size w wr∧Below W1.heap.size W1 wr) (fun ix _=>M.length - (intOf ix).toNat)
 case atStart=>exact⟨0,Nat.zero_le _,rfl,rfl,HB1.out,Below.refl _ _⟩
 case round=>
  obtain⟨k,hk,rfl,hok,hb,hb1⟩:=hrel
  have HB:=hide hb
  have HBW:=hide hb1
  have q0:=cell_kept b0 hb1
  have q1:=cell_kept b1 hb1
  have q2:=cell_kept b2 hb1
  have q3:=cell_kept b3 hb1
  by_cases hlt:k<M.length
  ·obtain rfl:=han (by omega)
   obtain⟨x,hx,hxs⟩:=HC.out k hlt
   have g:=cell_kept hx hb
   have hz:=HE.out k hlt
   have hd:M.drop k=M.getD k .empty::M.drop (k+1):=drop_at M .empty k hlt
   rw[hd,List.all_cons]at hok
   obtain⟨s,hs⟩:∃s,M.getD k .empty=s:=⟨_,rfl⟩
   rw[hs]at hxs hz hok
   have HL:=hide (l2name_any x s wr (hxs.below hb) hz)
   obtain⟨B,hB⟩:∃B,vNm s=B:=⟨_,rfl⟩
   rw[hB]at HL hok
   have HOK:=hide hok
   have hlq:decide ((k:Int)<1)=true:=decide_eq_true (by have:=HQ.out;omega)
   have hlti:(k:Int)<(M.length:Int):=by omega
   clear hd hs hx hxs hz hok hB hb hb1 hk
   go_wp2_with fail
   refine HL.out.mono ?_
   rintro e w4 ⟨rfl,hb4⟩
   have HB4:Hid (Below w.heap.size w w4):=HB.out.trans (hb4.mono HB.out.size)
   have HBW4:Hid (Below W1.heap.size W1 w4):=HBW.out.trans (hb4.mono HBW.out.size)
   clear hb4
   cases B with
   |true=>
    have HR:Hid ((M.drop (k+1)).all vNm=M.all vNm):=HOK.out
    go_wp2
    go_roundw
    case rel=>exact⟨k+1,by omega,by go_num,HR.out,HB4.out,HBW4.out⟩
    case measure=>simp[intOf];omega
   |false=>
    have HR:Hid (M.all vNm=false):=HOK.out.symm
    have HV:Hid (V=false):=HNSF.out (by rw[HNS2.out,HR.out])
    go_wp2
    go_ret
    exact⟨by rw[HV.out];rfl,HB4.out⟩
  ·have hlq:decide ((k:Int)<1)=false:=decide_eq_false (by have:=HQ.out;omega)
   have HVN:Hid (vNs ⟨3,N,T,M,Y,C⟩=true):=by show _=_;rw[HNS2.out,← hok,show k=M.length by omega,List.drop_length];rfl
   clear hok hb hb1 hlt hk
   by_cases c3:T.size≠0
   ·have e3:((T.size:Int) != 0)=true:=by rw[bne_iff_ne];omega
    have HV:Hid (V=false):=HTXF.out (by rw[HTX.out,beq_eq_false_iff_ne];exact c3)
    clear c3
    go_wp2
    all_goals go_ret
    all_goals exact⟨by rw[HV.out];rfl,HB.out⟩
   have c3:T.size=0:=by omega
   have e3:((T.size:Int) != 0)=false:=by rw[bne_eq_false_iff_eq];omega
   have HVT:Hid (vTx ⟨3,N,T,M,Y,C⟩=true):=by show _=_;rw[HTX.out,beq_iff_eq];exact c3
   clear c3
   by_cases c4:0≤N
   ·have d4:decide ((0:Int)≤N)=true:=decide_eq_true c4
    have HV:Hid (V=decide (N≤0)):=HOKF.out HVT.out HVY.out HVN.out c4
    clear c4
    go_wp2
    all_goals go_ret
    all_goals exact⟨by rw[HV.out];rfl,HB.out⟩
   ·have d4:decide ((0:Int)≤N)=false:=decide_eq_false c4
    have HV:Hid (V=false):=HLOF.out (by omega)
    clear c4
    go_wp2
    all_goals go_ret
    all_goals exact⟨by rw[HV.out];rfl,HB.out⟩
set_option maxHeartbeats 4000000 in
set_option maxRecDepth 1000000 in
theorem fields_4 (N C:Int)(T:ByteArray)(M:List ByteArray)(Y:List Int)(vt vn vy:Value)(w:World)(h:NV w ⟨4,N,T,M,Y,C⟩ vt vn vy)(hb:NB ⟨4,N,T,M,Y,C⟩):
 Calls Tryz.prog 70 #[.agg #[.int .i64 4,.int .i64 N,vt,vn,vy,.int .i64 C]] w fun e w'=>e = .returned (.bool (vFd ⟨4,N,T,M,Y,C⟩))∧Below w.heap.size w w':=by
 obtain⟨W1,hW1⟩:∃W1,w.alloc (.cells #[.int .i64 4,.int .i64 N,vt,vn,vy,.int .i64 C] 51)=W1:=⟨_,rfl⟩
 have hB1:Below w.heap.size w W1:=by rw[← hW1];exact (Below.refl _ _).alloc (Nat.le_refl _) _
 have hBk:Blk W1 w.heap.size 51 #[.int .i64 4,.int .i64 N,vt,vn,vy,.int .i64 C]:=by rw[← hW1];exact Blk.new _ _ _
 have hnO:nOf ⟨4,N,T,M,Y,C⟩=1:=rfl
 have hgN:gNk 4=0:=rfl
 have HTX:Hid (vTx ⟨4,N,T,M,Y,C⟩=(T.size==0)):=by show _=_;unfold vTx;rw[if_neg (show ¬(4:Int)=17 from by decide)]
 have HTY:Hid (vTy ⟨4,N,T,M,Y,C⟩=(Y.length==0)):=by show _=_;unfold vTy;rw[if_neg (show ¬(4:Int)=1 from by decide)]
 have HNS:Hid (vNs ⟨4,N,T,M,Y,C⟩=(((M.length:Int)==1)&&M.all vNm)):=by show (((M.length:Int)==nOf ⟨4,N,T,M,Y,C⟩)&&M.all vNm)=_;rw[hnO]
 have HTXF:=hide (vfd_tx (d:=⟨4,N,T,M,Y,C⟩))
 have HTYF:=hide (vfd_ty (d:=⟨4,N,T,M,Y,C⟩))
 have HNSF:=hide (vfd_ns (d:=⟨4,N,T,M,Y,C⟩))
 have HLOF:=hide (vfd_lo (d:=⟨4,N,T,M,Y,C⟩))
 have HOKF:=hide (vfd_ok (d:=⟨4,N,T,M,Y,C⟩))
 simp only[hgN]at HOKF
 simp only at HLOF
 obtain⟨V,hV⟩:∃V,vFd ⟨4,N,T,M,Y,C⟩=V:=⟨_,rfl⟩
 rw[hV]at HTXF HTYF HNSF HLOF HOKF ⊢
 have HE:=hide hb.each
 have hyl:=hb.types
 have hml:=hb.names
 have htl:=hb.text
 obtain⟨ay,by_,oy,cy,hvy,hay,hcy⟩:=h.types
 obtain⟨an,bn,on,cn,hvn,han,hcn⟩:=h.names
 obtain⟨at_,bt,ot,ct,hvt,hat,hct⟩:=h.text
 simp only at hvy hvn hvt hay han hat hcy hcn hct hyl hml htl HE
 subst hvy hvn hvt
 have HC:=hide hcn
 have HW:=hide hW1
 have HB1:=hide hB1
 have HBK:=hide hBk
 have b0:=HBK.out.cell 0
 have b1:=HBK.out.cell 1
 have b2:=HBK.out.cell 2
 have b3:=HBK.out.cell 3
 have b4:=HBK.out.cell 4
 simp only[List.getElem?_toArray,List.getElem?_cons_succ,List.getElem?_cons_zero]at b0 b1 b2 b3 b4
 clear hW1 hB1 hBk hcy hct hcn hat hay h hb hnO hgN hV
 by_cases c1:Y.length≠0
 ·have e1:((Y.length:Int) != 0)=true:=by rw[bne_iff_ne];omega
  have HV:Hid (V=false):=HTYF.out (by rw[HTY.out,beq_eq_false_iff_ne];exact c1)
  clear c1
  go_enter Tryz.func70,Tryz.ntmps70
  go_wp2_with fail
  rw[HW.out]
  go_wp2
  all_goals go_ret
  all_goals exact⟨by rw[HV.out];rfl,HB1.out⟩
 have c1:Y.length=0:=by omega
 have HVY:Hid (vTy ⟨4,N,T,M,Y,C⟩=true):=by show _=_;rw[HTY.out,beq_iff_eq];exact c1
 have e1:((Y.length:Int) != 0)=false:=by rw[bne_eq_false_iff_eq];omega
 by_cases c2:M.length≠1
 ·have e2:((M.length:Int) != 1)=true:=by rw[bne_iff_ne];omega
  have HV:Hid (V=false):=HNSF.out (by rw[HNS.out,beq_eq_false_iff_ne.2 (show ¬(M.length:Int)=1 by omega),Bool.false_and])
  clear c1 c2
  go_enter Tryz.func70,Tryz.ntmps70
  go_wp2_with fail
  rw[HW.out]
  go_wp2
  all_goals go_ret
  all_goals exact⟨by rw[HV.out];rfl,HB1.out⟩
 have c2:M.length=1:=by omega
 have e2:((M.length:Int) != 1)=false:=by rw[bne_eq_false_iff_eq];omega
 have HNS2:Hid (vNs ⟨4,N,T,M,Y,C⟩=M.all vNm):=by show _=_;rw[HNS.out,beq_iff_eq.2 (show (M.length:Int)=1 by omega),Bool.true_and]
 have HQ:Hid (M.length=1):=c2
 clear c1 c2
 go_enter Tryz.func70,Tryz.ntmps70
 go_wp2_with fail
 rw[HW.out]
 go_wp2
 go_loopw [5] (fun ix wr=>∃k:Nat,k≤M.length∧ix = .int .i64 k∧(M.drop k).all vNm=M.all vNm∧Below w.heap.size w wr∧Below W1.heap.size W1 wr) (fun ix _=>M.length - (intOf ix).toNat)
 case atStart=>exact⟨0,Nat.zero_le _,rfl,rfl,HB1.out,Below.refl _ _⟩
 case round=>
  obtain⟨k,hk,rfl,hok,hb,hb1⟩:=hrel
  have HB:=hide hb
  have HBW:=hide hb1
  have q0:=cell_kept b0 hb1
  have q1:=cell_kept b1 hb1
  have q2:=cell_kept b2 hb1
  have q3:=cell_kept b3 hb1
  by_cases hlt:k<M.length
  ·obtain rfl:=han (by omega)
   obtain⟨x,hx,hxs⟩:=HC.out k hlt
   have g:=cell_kept hx hb
   have hz:=HE.out k hlt
   have hd:M.drop k=M.getD k .empty::M.drop (k+1):=drop_at M .empty k hlt
   rw[hd,List.all_cons]at hok
   obtain⟨s,hs⟩:∃s,M.getD k .empty=s:=⟨_,rfl⟩
   rw[hs]at hxs hz hok
   have HL:=hide (l2name_any x s wr (hxs.below hb) hz)
   obtain⟨B,hB⟩:∃B,vNm s=B:=⟨_,rfl⟩
   rw[hB]at HL hok
   have HOK:=hide hok
   have hlq:decide ((k:Int)<1)=true:=decide_eq_true (by have:=HQ.out;omega)
   have hlti:(k:Int)<(M.length:Int):=by omega
   clear hd hs hx hxs hz hok hB hb hb1 hk
   go_wp2_with fail
   refine HL.out.mono ?_
   rintro e w4 ⟨rfl,hb4⟩
   have HB4:Hid (Below w.heap.size w w4):=HB.out.trans (hb4.mono HB.out.size)
   have HBW4:Hid (Below W1.heap.size W1 w4):=HBW.out.trans (hb4.mono HBW.out.size)
   clear hb4
   cases B with
   |true=>
    have HR:Hid ((M.drop (k+1)).all vNm=M.all vNm):=HOK.out
    go_wp2
    go_roundw
    case rel=>exact⟨k+1,by omega,by go_num,HR.out,HB4.out,HBW4.out⟩
    case measure=>simp[intOf];omega
   |false=>
    have HR:Hid (M.all vNm=false):=HOK.out.symm
    have HV:Hid (V=false):=HNSF.out (by rw[HNS2.out,HR.out])
    go_wp2
    go_ret
    exact⟨by rw[HV.out];rfl,HB4.out⟩
  ·have hlq:decide ((k:Int)<1)=false:=decide_eq_false (by have:=HQ.out;omega)
   have HVN:Hid (vNs ⟨4,N,T,M,Y,C⟩=true):=by show _=_;rw[HNS2.out,← hok,show k=M.length by omega,List.drop_length];rfl
   clear hok hb hb1 hlt hk
   by_cases c3:T.size≠0
   ·have e3:((T.size:Int) != 0)=true:=by rw[bne_iff_ne];omega
    have HV:Hid (V=false):=HTXF.out (by rw[HTX.out,beq_eq_false_iff_ne];exact c3)
    clear c3
    go_wp2
    all_goals go_ret
    all_goals exact⟨by rw[HV.out];rfl,HB.out⟩
   have c3:T.size=0:=by omega
   have e3:((T.size:Int) != 0)=false:=by rw[bne_eq_false_iff_eq];omega
   have HVT:Hid (vTx ⟨4,N,T,M,Y,C⟩=true):=by show _=_;rw[HTX.out,beq_iff_eq];exact c3
   clear c3
   by_cases c4:0≤N
   ·have d4:decide ((0:Int)≤N)=true:=decide_eq_true c4
    have HV:Hid (V=decide (N≤0)):=HOKF.out HVT.out HVY.out HVN.out c4
    clear c4
    go_wp2
    all_goals go_ret
    all_goals exact⟨by rw[HV.out];rfl,HB.out⟩
   ·have d4:decide ((0:Int)≤N)=false:=decide_eq_false c4
    have HV:Hid (V=false):=HLOF.out (by omega)
    clear c4
    go_wp2
    all_goals go_ret
    all_goals exact⟨by rw[HV.out];rfl,HB.out⟩
set_option maxHeartbeats 4000000 in
set_option maxRecDepth 1000000 in
theorem fields_5 (N C:Int)(T:ByteArray)(M:List ByteArray)(Y:List Int)(vt vn vy:Value)(w:World)(h:NV w ⟨5,N,T,M,Y,C⟩ vt vn vy)(hb:NB ⟨5,N,T,M,Y,C⟩):
 Calls Tryz.prog 70 #[.agg #[.int .i64 5,.int .i64 N,vt,vn,vy,.int .i64 C]] w fun e w'=>e = .returned (.bool (vFd ⟨5,N,T,M,Y,C⟩))∧Below w.heap.size w w':=by
 obtain⟨W1,hW1⟩:∃W1,w.alloc (.cells #[.int .i64 5,.int .i64 N,vt,vn,vy,.int .i64 C] 51)=W1:=⟨_,rfl⟩
 have hB1:Below w.heap.size w W1:=by rw[← hW1];exact (Below.refl _ _).alloc (Nat.le_refl _) _
 have hBk:Blk W1 w.heap.size 51 #[.int .i64 5,.int .i64 N,vt,vn,vy,.int .i64 C]:=by rw[← hW1];exact Blk.new _ _ _
 have hnO:nOf ⟨5,N,T,M,Y,C⟩=1:=rfl
 have hgN:gNk 5=0:=rfl
 have HTX:Hid (vTx ⟨5,N,T,M,Y,C⟩=(T.size==0)):=by show _=_;unfold vTx;rw[if_neg (show ¬(5:Int)=17 from by decide)]
 have HTY:Hid (vTy ⟨5,N,T,M,Y,C⟩=(Y.length==0)):=by show _=_;unfold vTy;rw[if_neg (show ¬(5:Int)=1 from by decide)]
 have HNS:Hid (vNs ⟨5,N,T,M,Y,C⟩=(((M.length:Int)==1)&&M.all vNm)):=by show (((M.length:Int)==nOf ⟨5,N,T,M,Y,C⟩)&&M.all vNm)=_;rw[hnO]
 have HTXF:=hide (vfd_tx (d:=⟨5,N,T,M,Y,C⟩))
 have HTYF:=hide (vfd_ty (d:=⟨5,N,T,M,Y,C⟩))
 have HNSF:=hide (vfd_ns (d:=⟨5,N,T,M,Y,C⟩))
 have HLOF:=hide (vfd_lo (d:=⟨5,N,T,M,Y,C⟩))
 have HOKF:=hide (vfd_ok (d:=⟨5,N,T,M,Y,C⟩))
 simp only[hgN]at HOKF
 simp only at HLOF
 obtain⟨V,hV⟩:∃V,vFd ⟨5,N,T,M,Y,C⟩=V:=⟨_,rfl⟩
 rw[hV]at HTXF HTYF HNSF HLOF HOKF ⊢
 have HE:=hide hb.each
 have hyl:=hb.types
 have hml:=hb.names
 have htl:=hb.text
 obtain⟨ay,by_,oy,cy,hvy,hay,hcy⟩:=h.types
 obtain⟨an,bn,on,cn,hvn,han,hcn⟩:=h.names
 obtain⟨at_,bt,ot,ct,hvt,hat,hct⟩:=h.text
 simp only at hvy hvn hvt hay han hat hcy hcn hct hyl hml htl HE
 subst hvy hvn hvt
 have HC:=hide hcn
 have HW:=hide hW1
 have HB1:=hide hB1
 have HBK:=hide hBk
 have b0:=HBK.out.cell 0
 have b1:=HBK.out.cell 1
 have b2:=HBK.out.cell 2
 have b3:=HBK.out.cell 3
 have b4:=HBK.out.cell 4
 simp only[List.getElem?_toArray,List.getElem?_cons_succ,List.getElem?_cons_zero]at b0 b1 b2 b3 b4
 clear hW1 hB1 hBk hcy hct hcn hat hay h hb hnO hgN hV
 by_cases c1:Y.length≠0
 ·have e1:((Y.length:Int) != 0)=true:=by rw[bne_iff_ne];omega
  have HV:Hid (V=false):=HTYF.out (by rw[HTY.out,beq_eq_false_iff_ne];exact c1)
  clear c1
  go_enter Tryz.func70,Tryz.ntmps70
  go_wp2_with fail
  rw[HW.out]
  go_wp2
  all_goals go_ret
  all_goals exact⟨by rw[HV.out];rfl,HB1.out⟩
 have c1:Y.length=0:=by omega
 have HVY:Hid (vTy ⟨5,N,T,M,Y,C⟩=true):=by show _=_;rw[HTY.out,beq_iff_eq];exact c1
 have e1:((Y.length:Int) != 0)=false:=by rw[bne_eq_false_iff_eq];omega
 by_cases c2:M.length≠1
 ·have e2:((M.length:Int) != 1)=true:=by rw[bne_iff_ne];omega
  have HV:Hid (V=false):=HNSF.out (by rw[HNS.out,beq_eq_false_iff_ne.2 (show ¬(M.length:Int)=1 by omega),Bool.false_and])
  clear c1 c2
  go_enter Tryz.func70,Tryz.ntmps70
  go_wp2_with fail
  rw[HW.out]
  go_wp2
  all_goals go_ret
  all_goals exact⟨by rw[HV.out];rfl,HB1.out⟩
 have c2:M.length=1:=by omega
 have e2:((M.length:Int) != 1)=false:=by rw[bne_eq_false_iff_eq];omega
 have HNS2:Hid (vNs ⟨5,N,T,M,Y,C⟩=M.all vNm):=by show _=_;rw[HNS.out,beq_iff_eq.2 (show (M.length:Int)=1 by omega),Bool.true_and]
 have HQ:Hid (M.length=1):=c2
 clear c1 c2
 go_enter Tryz.func70,Tryz.ntmps70
 go_wp2_with fail
 rw[HW.out]
 go_wp2
 go_loopw [5] (fun ix wr=>∃k:Nat,k≤M.length∧ix = .int .i64 k∧(M.drop k).all vNm=M.all vNm∧Below w.heap.size w wr∧Below W1.heap.size W1 wr) (fun ix _=>M.length - (intOf ix).toNat)
 case atStart=>exact⟨0,Nat.zero_le _,rfl,rfl,HB1.out,Below.refl _ _⟩
 case round=>
  obtain⟨k,hk,rfl,hok,hb,hb1⟩:=hrel
  have HB:=hide hb
  have HBW:=hide hb1
  have q0:=cell_kept b0 hb1
  have q1:=cell_kept b1 hb1
  have q2:=cell_kept b2 hb1
  have q3:=cell_kept b3 hb1
  by_cases hlt:k<M.length
  ·obtain rfl:=han (by omega)
   obtain⟨x,hx,hxs⟩:=HC.out k hlt
   have g:=cell_kept hx hb
   have hz:=HE.out k hlt
   have hd:M.drop k=M.getD k .empty::M.drop (k+1):=drop_at M .empty k hlt
   rw[hd,List.all_cons]at hok
   obtain⟨s,hs⟩:∃s,M.getD k .empty=s:=⟨_,rfl⟩
   rw[hs]at hxs hz hok
   have HL:=hide (l2name_any x s wr (hxs.below hb) hz)
   obtain⟨B,hB⟩:∃B,vNm s=B:=⟨_,rfl⟩
   rw[hB]at HL hok
   have HOK:=hide hok
   have hlq:decide ((k:Int)<1)=true:=decide_eq_true (by have:=HQ.out;omega)
   have hlti:(k:Int)<(M.length:Int):=by omega
   clear hd hs hx hxs hz hok hB hb hb1 hk
   go_wp2_with fail
   refine HL.out.mono ?_
   rintro e w4 ⟨rfl,hb4⟩
   have HB4:Hid (Below w.heap.size w w4):=HB.out.trans (hb4.mono HB.out.size)
   have HBW4:Hid (Below W1.heap.size W1 w4):=HBW.out.trans (hb4.mono HBW.out.size)
   clear hb4
   cases B with
   |true=>
    have HR:Hid ((M.drop (k+1)).all vNm=M.all vNm):=HOK.out
    go_wp2
    go_roundw
    case rel=>exact⟨k+1,by omega,by go_num,HR.out,HB4.out,HBW4.out⟩
    case measure=>simp[intOf];omega
   |false=>
    have HR:Hid (M.all vNm=false):=HOK.out.symm
    have HV:Hid (V=false):=HNSF.out (by rw[HNS2.out,HR.out])
    go_wp2
    go_ret
    exact⟨by rw[HV.out];rfl,HB4.out⟩
  ·have hlq:decide ((k:Int)<1)=false:=decide_eq_false (by have:=HQ.out;omega)
   have HVN:Hid (vNs ⟨5,N,T,M,Y,C⟩=true):=by show _=_;rw[HNS2.out,← hok,show k=M.length by omega,List.drop_length];rfl
   clear hok hb hb1 hlt hk
   by_cases c3:T.size≠0
   ·have e3:((T.size:Int) != 0)=true:=by rw[bne_iff_ne];omega
    have HV:Hid (V=false):=HTXF.out (by rw[HTX.out,beq_eq_false_iff_ne];exact c3)
    clear c3
    go_wp2
    all_goals go_ret
    all_goals exact⟨by rw[HV.out];rfl,HB.out⟩
   have c3:T.size=0:=by omega
   have e3:((T.size:Int) != 0)=false:=by rw[bne_eq_false_iff_eq];omega
   have HVT:Hid (vTx ⟨5,N,T,M,Y,C⟩=true):=by show _=_;rw[HTX.out,beq_iff_eq];exact c3
   clear c3
   by_cases c4:0≤N
   ·have d4:decide ((0:Int)≤N)=true:=decide_eq_true c4
    have HV:Hid (V=decide (N≤0)):=HOKF.out HVT.out HVY.out HVN.out c4
    clear c4
    go_wp2
    all_goals go_ret
    all_goals exact⟨by rw[HV.out];rfl,HB.out⟩
   ·have d4:decide ((0:Int)≤N)=false:=decide_eq_false c4
    have HV:Hid (V=false):=HLOF.out (by omega)
    clear c4
    go_wp2
    all_goals go_ret
    all_goals exact⟨by rw[HV.out];rfl,HB.out⟩
set_option maxHeartbeats 4000000 in
set_option maxRecDepth 1000000 in
theorem fields_19 (N C:Int)(T:ByteArray)(M:List ByteArray)(Y:List Int)(vt vn vy:Value)(w:World)(h:NV w ⟨19,N,T,M,Y,C⟩ vt vn vy)(hb:NB ⟨19,N,T,M,Y,C⟩):
 Calls Tryz.prog 70 #[.agg #[.int .i64 19,.int .i64 N,vt,vn,vy,.int .i64 C]] w fun e w'=>e = .returned (.bool (vFd ⟨19,N,T,M,Y,C⟩))∧Below w.heap.size w w':=by
 obtain⟨W1,hW1⟩:∃W1,w.alloc (.cells #[.int .i64 19,.int .i64 N,vt,vn,vy,.int .i64 C] 51)=W1:=⟨_,rfl⟩
 have hB1:Below w.heap.size w W1:=by rw[← hW1];exact (Below.refl _ _).alloc (Nat.le_refl _) _
 have hBk:Blk W1 w.heap.size 51 #[.int .i64 19,.int .i64 N,vt,vn,vy,.int .i64 C]:=by rw[← hW1];exact Blk.new _ _ _
 have hnO:nOf ⟨19,N,T,M,Y,C⟩=1:=rfl
 have hgN:gNk 19=0:=rfl
 have HTX:Hid (vTx ⟨19,N,T,M,Y,C⟩=(T.size==0)):=by show _=_;unfold vTx;rw[if_neg (show ¬(19:Int)=17 from by decide)]
 have HTY:Hid (vTy ⟨19,N,T,M,Y,C⟩=(Y.length==0)):=by show _=_;unfold vTy;rw[if_neg (show ¬(19:Int)=1 from by decide)]
 have HNS:Hid (vNs ⟨19,N,T,M,Y,C⟩=(((M.length:Int)==1)&&M.all vNm)):=by show (((M.length:Int)==nOf ⟨19,N,T,M,Y,C⟩)&&M.all vNm)=_;rw[hnO]
 have HTXF:=hide (vfd_tx (d:=⟨19,N,T,M,Y,C⟩))
 have HTYF:=hide (vfd_ty (d:=⟨19,N,T,M,Y,C⟩))
 have HNSF:=hide (vfd_ns (d:=⟨19,N,T,M,Y,C⟩))
 have HLOF:=hide (vfd_lo (d:=⟨19,N,T,M,Y,C⟩))
 have HOKF:=hide (vfd_ok (d:=⟨19,N,T,M,Y,C⟩))
 simp only[hgN]at HOKF
 simp only at HLOF
 obtain⟨V,hV⟩:∃V,vFd ⟨19,N,T,M,Y,C⟩=V:=⟨_,rfl⟩
 rw[hV]at HTXF HTYF HNSF HLOF HOKF ⊢
 have HE:=hide hb.each
 have hyl:=hb.types
 have hml:=hb.names
 have htl:=hb.text
 obtain⟨ay,by_,oy,cy,hvy,hay,hcy⟩:=h.types
 obtain⟨an,bn,on,cn,hvn,han,hcn⟩:=h.names
 obtain⟨at_,bt,ot,ct,hvt,hat,hct⟩:=h.text
 simp only at hvy hvn hvt hay han hat hcy hcn hct hyl hml htl HE
 subst hvy hvn hvt
 have HC:=hide hcn
 have HW:=hide hW1
 have HB1:=hide hB1
 have HBK:=hide hBk
 have b0:=HBK.out.cell 0
 have b1:=HBK.out.cell 1
 have b2:=HBK.out.cell 2
 have b3:=HBK.out.cell 3
 have b4:=HBK.out.cell 4
 simp only[List.getElem?_toArray,List.getElem?_cons_succ,List.getElem?_cons_zero]at b0 b1 b2 b3 b4
 clear hW1 hB1 hBk hcy hct hcn hat hay h hb hnO hgN hV
 by_cases c1:Y.length≠0
 ·have e1:((Y.length:Int) != 0)=true:=by rw[bne_iff_ne];omega
  have HV:Hid (V=false):=HTYF.out (by rw[HTY.out,beq_eq_false_iff_ne];exact c1)
  clear c1
  go_enter Tryz.func70,Tryz.ntmps70
  go_wp2_with fail
  rw[HW.out]
  go_wp2
  all_goals go_ret
  all_goals exact⟨by rw[HV.out];rfl,HB1.out⟩
 have c1:Y.length=0:=by omega
 have HVY:Hid (vTy ⟨19,N,T,M,Y,C⟩=true):=by show _=_;rw[HTY.out,beq_iff_eq];exact c1
 have e1:((Y.length:Int) != 0)=false:=by rw[bne_eq_false_iff_eq];omega
 by_cases c2:M.length≠1
 ·have e2:((M.length:Int) != 1)=true:=by rw[bne_iff_ne];omega
  have HV:Hid (V=false):=HNSF.out (by rw[HNS.out,beq_eq_false_iff_ne.2 (show ¬(M.length:Int)=1 by omega),Bool.false_and])
  clear c1 c2
  go_enter Tryz.func70,Tryz.ntmps70
  go_wp2_with fail
  rw[HW.out]
  go_wp2
  all_goals go_ret
  all_goals exact⟨by rw[HV.out];rfl,HB1.out⟩
 have c2:M.length=1:=by omega
 have e2:((M.length:Int) != 1)=false:=by rw[bne_eq_false_iff_eq];omega
 have HNS2:Hid (vNs ⟨19,N,T,M,Y,C⟩=M.all vNm):=by show _=_;rw[HNS.out,beq_iff_eq.2 (show (M.length:Int)=1 by omega),Bool.true_and]
 have HQ:Hid (M.length=1):=c2
 clear c1 c2
 go_enter Tryz.func70,Tryz.ntmps70
 go_wp2_with fail
 rw[HW.out]
 go_wp2
 go_loopw [5] (fun ix wr=>∃k:Nat,k≤M.length∧ix = .int .i64 k∧(M.drop k).all vNm=M.all vNm∧Below w.heap.size w wr∧Below W1.heap.size W1 wr) (fun ix _=>M.length - (intOf ix).toNat)
 case atStart=>exact⟨0,Nat.zero_le _,rfl,rfl,HB1.out,Below.refl _ _⟩
 case round=>
  obtain⟨k,hk,rfl,hok,hb,hb1⟩:=hrel
  have HB:=hide hb
  have HBW:=hide hb1
  have q0:=cell_kept b0 hb1
  have q1:=cell_kept b1 hb1
  have q2:=cell_kept b2 hb1
  have q3:=cell_kept b3 hb1
  by_cases hlt:k<M.length
  ·obtain rfl:=han (by omega)
   obtain⟨x,hx,hxs⟩:=HC.out k hlt
   have g:=cell_kept hx hb
   have hz:=HE.out k hlt
   have hd:M.drop k=M.getD k .empty::M.drop (k+1):=drop_at M .empty k hlt
   rw[hd,List.all_cons]at hok
   obtain⟨s,hs⟩:∃s,M.getD k .empty=s:=⟨_,rfl⟩
   rw[hs]at hxs hz hok
   have HL:=hide (l2name_any x s wr (hxs.below hb) hz)
   obtain⟨B,hB⟩:∃B,vNm s=B:=⟨_,rfl⟩
   rw[hB]at HL hok
   have HOK:=hide hok
   have hlq:decide ((k:Int)<1)=true:=decide_eq_true (by have:=HQ.out;omega)
   have hlti:(k:Int)<(M.length:Int):=by omega
   clear hd hs hx hxs hz hok hB hb hb1 hk
   go_wp2_with fail
   refine HL.out.mono ?_
   rintro e w4 ⟨rfl,hb4⟩
   have HB4:Hid (Below w.heap.size w w4):=HB.out.trans (hb4.mono HB.out.size)
   have HBW4:Hid (Below W1.heap.size W1 w4):=HBW.out.trans (hb4.mono HBW.out.size)
   clear hb4
   cases B with
   |true=>
    have HR:Hid ((M.drop (k+1)).all vNm=M.all vNm):=HOK.out
    go_wp2
    go_roundw
    case rel=>exact⟨k+1,by omega,by go_num,HR.out,HB4.out,HBW4.out⟩
    case measure=>simp[intOf];omega
   |false=>
    have HR:Hid (M.all vNm=false):=HOK.out.symm
    have HV:Hid (V=false):=HNSF.out (by rw[HNS2.out,HR.out])
    go_wp2
    go_ret
    exact⟨by rw[HV.out];rfl,HB4.out⟩
  ·have hlq:decide ((k:Int)<1)=false:=decide_eq_false (by have:=HQ.out;omega)
   have HVN:Hid (vNs ⟨19,N,T,M,Y,C⟩=true):=by show _=_;rw[HNS2.out,← hok,show k=M.length by omega,List.drop_length];rfl
   clear hok hb hb1 hlt hk
   by_cases c3:T.size≠0
   ·have e3:((T.size:Int) != 0)=true:=by rw[bne_iff_ne];omega
    have HV:Hid (V=false):=HTXF.out (by rw[HTX.out,beq_eq_false_iff_ne];exact c3)
    clear c3
    go_wp2
    all_goals go_ret
    all_goals exact⟨by rw[HV.out];rfl,HB.out⟩
   have c3:T.size=0:=by omega
   have e3:((T.size:Int) != 0)=false:=by rw[bne_eq_false_iff_eq];omega
   have HVT:Hid (vTx ⟨19,N,T,M,Y,C⟩=true):=by show _=_;rw[HTX.out,beq_iff_eq];exact c3
   clear c3
   by_cases c4:0≤N
   ·have d4:decide ((0:Int)≤N)=true:=decide_eq_true c4
    have HV:Hid (V=decide (N≤0)):=HOKF.out HVT.out HVY.out HVN.out c4
    clear c4
    go_wp2
    all_goals go_ret
    all_goals exact⟨by rw[HV.out];rfl,HB.out⟩
   ·have d4:decide ((0:Int)≤N)=false:=decide_eq_false c4
    have HV:Hid (V=false):=HLOF.out (by omega)
    clear c4
    go_wp2
    all_goals go_ret
    all_goals exact⟨by rw[HV.out];rfl,HB.out⟩
end Go.Proofs.YtbiakdjpeblclaaGreatDoor

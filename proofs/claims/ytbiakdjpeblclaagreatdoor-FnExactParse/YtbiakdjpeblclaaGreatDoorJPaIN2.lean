/-
  The walk of eqIntS, where both read as the same.
-/
import Derived.Test.YtbiakdjpeblclaaGreatDoorJPaT
import Derived.BigQuiet
import Derived.Deep.QuietTactic
import Derived.Deep.RegionWith
import Derived.Test.YtbiakdjpeblclaaGreatDoorJPaRH
import Derived.Test.YtbiakdjpeblclaaGreatDoorJPaVS
import Derived.Test.YtbiakdjpeblclaaGreatDoorJPaDR0
namespace Go.Proofs.YtbiakdjpeblclaaGreatDoor
open Go.RowKit
set_option maxHeartbeats 400000 in
set_option maxRecDepth 1000000 in
theorem eqI_w {w:World}{v1 v2:Value}{l:List Int}(hs:l.length≤100000000)(h1:IS w v1 l)(h2:IS w v2 l):
 Calls Tryz.prog 8 #[v1,v2] w fun e w'=>e = .returned (.bool true)∧Below w.heap.size w w':=by
 obtain⟨a1,b1,o1,c1,rfl,ha1,hc1⟩:=h1
 obtain⟨a2,b2,o2,c2,rfl,ha2,hc2⟩:=h2
 have HC1:=hide hc1
 have HC2:=hide hc2
 clear hc1 hc2
 have hne:((l.length:Int) != (l.length:Int))=false:=by simp
 go_enter Tryz.func8,Tryz.ntmps8
 go_wp2
 go_loopw [5] (fun i wr=>∃k n:Nat,k≤l.length∧i = .int .i64 k∧wr=w.drewN n) (fun i _=>l.length - (intOf i).toNat)
 case atStart=>exact⟨0,0,Nat.zero_le _,rfl,rfl⟩
 case round=>
  obtain⟨k,n,hk,rfl,rfl⟩:=hrel
  by_cases hlt:k<l.length
  ·obtain rfl:=ha1 (by omega)
   obtain rfl:=ha2 (by omega)
   have g1:=HC1.out k hlt
   have g2:=HC2.out k hlt
   obtain⟨y,hy⟩:∃y,l.getD k 0=y:=⟨_,rfl⟩
   rw[hy]at g1 g2
   have hyy:(y != y)=false:=by simp
   have hlti:(k:Int)<(l.length:Int):=by omega
   clear hy
   go_wp2
   go_region
   all_goals go_wp2
   all_goals
    go_roundw
    case rel=>exact⟨k+1,_,by omega,by go_num,rfl⟩
    case measure=>simp[intOf];omega
  ·have hge:¬(k:Int)<(l.length:Int):=by omega
   go_wp2
   go_ret
   exact⟨rfl,below_drewN (Below.refl _ _) n⟩
theorem eqI_same {w:World}{v1 v2:Value}{l:List Int}(hs:l.length≤1048576)(h1:IS w v1 l)(h2:IS w v2 l):
 Calls Tryz.prog 8 #[v1,v2] w fun e w'=>e = .returned (.bool true)∧Below w.heap.size w w':=eqI_w (by omega) h1 h2
set_option maxHeartbeats 1000000 in
set_option maxRecDepth 1000000 in
theorem eqB_same {w:World}{v1 v2:Value}{s:ByteArray}(hs:s.size≤1048576)(h1:BS w v1 s)(h2:BS w v2 s):
 Calls Tryz.prog 9 #[v1,v2] w fun e w'=>e = .returned (.bool true)∧Below w.heap.size w w':=by
 obtain⟨a1,b1,o1,c1,rfl,ha1,hc1⟩:=h1
 obtain⟨a2,b2,o2,c2,rfl,ha2,hc2⟩:=h2
 have H:=eqB_any a1 a2 b1 o1 c1 b2 o2 c2 s s w hs hs ha1 ha2 hc1 hc2
 rw[decide_eq_true (rfl:s=s)]at H
 exact H.mono fun _ _ ⟨h1,n,h2⟩=>⟨h1,by rw[h2];exact below_drewN (Below.refl _ _) n⟩
set_option maxHeartbeats 1000000 in
set_option maxRecDepth 1000000 in
theorem eqSS_same {w:World}{v1 v2:Value}{L:List ByteArray}(hs:L.length≤1048576)(hz:∀j,j<L.length→(L.getD j .empty).size≤1048576)(h1:SS w v1 L)(h2:SS w v2 L):
 Calls Tryz.prog 57 #[v1,v2] w fun e w'=>e = .returned (.bool true)∧Below w.heap.size w w':=by
 obtain⟨a1,b1,o1,c1,rfl,ha1,hc1⟩:=h1
 obtain⟨a2,b2,o2,c2,rfl,ha2,hc2⟩:=h2
 have HC1:=hide hc1
 have HC2:=hide hc2
 have HZ:=hide hz
 clear hc1 hc2 hz
 have hne:((L.length:Int) != (L.length:Int))=false:=by simp
 have hmx:Tryz.prog.follows .mixedOrders=true:=by kernel_rfl
 go_enter Tryz.func57,Tryz.ntmps57
 go_wp2
 go_loopw [5] (fun i wr=>∃k:Nat,k≤L.length∧i = .int .i64 k∧Below w.heap.size w wr) (fun i _=>L.length - (intOf i).toNat)
 case atStart=>exact⟨0,Nat.zero_le _,rfl,Below.refl _ _⟩
 case round=>
  obtain⟨k,hk,rfl,hb⟩:=hrel
  have HB:=hide hb
  by_cases hlt:k<L.length
  ·obtain rfl:=ha1 (by omega)
   obtain rfl:=ha2 (by omega)
   obtain⟨x1,q1,p1⟩:=HC1.out k hlt
   obtain⟨x2,q2,p2⟩:=HC2.out k hlt
   have g1:=cell_kept q1 hb
   have g2:=cell_kept q2 hb
   have hzk:=HZ.out k hlt
   obtain⟨s,hs'⟩:∃s,L.getD k .empty=s:=⟨_,rfl⟩
   rw[hs']at p1 p2 hzk
   have b1':BS wr.drew x1 s:=p1.below hb.drew
   have b2':BS wr.drew x2 s:=p2.below hb.drew
   have HE:=hide (eqB_same (w:=wr.drew) hzk b1' b2')
   have hbs:=hb.size
   have hlti:(k:Int)<(L.length:Int):=by omega
   clear hb q1 q2 p1 p2 hs' b1' b2'
   go_wp2_with fail
   go_region_with (go_at_call 9;refine HE.out.mono ?_;rintro e w1 ⟨rfl,hb1⟩)
   all_goals have HB1:Hid (Below w.heap.size w w1):=HB.out.drew.trans (hb1.mono hbs)
   all_goals clear hb1
   all_goals go_wp2
   all_goals
    go_roundw
    case rel=>exact⟨k+1,by omega,by go_num,HB1.out⟩
    case measure=>simp[intOf];omega
  ·have hge:¬(k:Int)<(L.length:Int):=by omega
   clear hb
   go_wp2
   go_ret
   exact⟨rfl,HB.out⟩
set_option maxHeartbeats 1000000 in
set_option maxRecDepth 1000000 in
theorem eqNd_same {w:World}{d:Nd}{t1 n1 y1 t2 n2 y2:Value}(hb:NB d)(h1:NV w d t1 n1 y1)(h2:NV w d t2 n2 y2):
 Calls Tryz.prog 28 #[nagg d t1 n1 y1,nagg d t2 n2 y2] w fun e w'=>e = .returned (.bool true)∧Below w.heap.size w w':=by
 obtain⟨K,N,T,M,Y,C⟩:=d
 have e1:(K != K)=false:=by simp
 have e2:(N != N)=false:=by simp
 have e3:(C != C)=false:=by simp
 have HB:=hide hb
 have H1:=hide h1
 have H2:=hide h2
 clear hb h1 h2
 unfold nagg
 simp only
 obtain⟨W1,hW1⟩:∃W1,(w.alloc (.cells #[.int .i64 K,.int .i64 N,t1,n1,y1,.int .i64 C] 51)).alloc (.cells #[.int .i64 K,.int .i64 N,t2,n2,y2,.int .i64 C] 51)=W1:=⟨_,rfl⟩
 have hb0:Below w.heap.size w W1:=by rw[← hW1];exact ((Below.refl _ _).alloc (Nat.le_refl _) _).alloc (by simp) _
 have hA:Blk W1 w.heap.size 51 #[.int .i64 K,.int .i64 N,t1,n1,y1,.int .i64 C]:=by rw[← hW1];exact (Blk.new _ _ _).alloc _
 have hB:Blk W1 (w.heap.size+1) 51 #[.int .i64 K,.int .i64 N,t2,n2,y2,.int .i64 C]:=by
  rw[← hW1]
  have:=Blk.new (w.alloc (.cells #[.int .i64 K,.int .i64 N,t1,n1,y1,.int .i64 C] 51)) 51 #[.int .i64 K,.int .i64 N,t2,n2,y2,.int .i64 C]
  simpa using this
 have HA:=hide hA
 have HBB:=hide hB
 have HB0:=hide hb0
 have HW:=hide hW1
 clear hA hB hb0 hW1
 go_enter Tryz.func28,Tryz.ntmps28
 go_wp2_with fail
 rw[HW.out]
 refine (eqB_same HB.out.text (H1.out.text.below HB0.out) (H2.out.text.below HB0.out)).mono ?_
 rintro e w2 ⟨rfl,hb2⟩
 have HA2:=hide (HA.out.below hb2)
 have HBB2:=hide (HBB.out.below hb2)
 have HB2:Hid (Below w.heap.size w w2):=HB0.out.trans (hb2.mono HB0.out.size)
 have c1:=HA2.out.cell 3
 have c2:=HBB2.out.cell 3
 simp only[List.getElem?_toArray,List.getElem?_cons_succ,List.getElem?_cons_zero]at c1 c2
 clear hb2 HA HBB HB0 HW
 go_wp2_with fail
 refine (eqSS_same HB.out.names HB.out.each (H1.out.names.below HB2.out) (H2.out.names.below HB2.out)).mono ?_
 rintro e w3 ⟨rfl,hb3⟩
 have HA3:=hide (HA2.out.below hb3)
 have HBB3:=hide (HBB2.out.below hb3)
 have HB3:Hid (Below w.heap.size w w3):=HB2.out.trans (hb3.mono HB2.out.size)
 have c3:=HA3.out.cell 4
 have c4:=HBB3.out.cell 4
 simp only[List.getElem?_toArray,List.getElem?_cons_succ,List.getElem?_cons_zero]at c3 c4
 clear hb3 HA2 HBB2 HB2 c1 c2
 go_wp2_with fail
 refine (eqI_same HB.out.types (H1.out.types.below HB3.out) (H2.out.types.below HB3.out)).mono ?_
 rintro e w4 ⟨rfl,hb4⟩
 have HA4:=hide (HA3.out.below hb4)
 have HBB4:=hide (HBB3.out.below hb4)
 have HB4:Hid (Below w.heap.size w w4):=HB3.out.trans (hb4.mono HB3.out.size)
 have c5:=HA4.out.cell 5
 have c6:=HBB4.out.cell 5
 simp only[List.getElem?_toArray,List.getElem?_cons_succ,List.getElem?_cons_zero]at c5 c6
 clear hb4 HA3 HBB3 HB3 c3 c4
 go_wp2
 go_ret
 exact⟨rfl,HB4.out⟩
set_option maxHeartbeats 1000000 in
set_option maxRecDepth 1000000 in
theorem eqNS_same {w:World}{v1 v2:Value}{L:List Nd}(hs:L.length≤1048576)(hz:∀j,j<L.length→NB (L.getD j .zero))(h1:NS w v1 L)(h2:NS w v2 L):
 Calls Tryz.prog 7 #[v1,v2] w fun e w'=>e = .returned (.bool true)∧Below w.heap.size w w':=by
 obtain⟨a1,b1,o1,c1,rfl,ha1,hc1⟩:=h1
 obtain⟨a2,b2,o2,c2,rfl,ha2,hc2⟩:=h2
 have HC1:=hide hc1
 have HC2:=hide hc2
 have HZ:=hide hz
 clear hc1 hc2 hz
 have hne:((L.length:Int) != (L.length:Int))=false:=by simp
 have hmx:Tryz.prog.follows .mixedOrders=true:=by kernel_rfl
 go_enter Tryz.func7,Tryz.ntmps7
 go_wp2
 go_loopw [5] (fun i wr=>∃k:Nat,k≤L.length∧i = .int .i64 k∧Below w.heap.size w wr) (fun i _=>L.length - (intOf i).toNat)
 case atStart=>exact⟨0,Nat.zero_le _,rfl,Below.refl _ _⟩
 case round=>
  obtain⟨k,hk,rfl,hb⟩:=hrel
  have HB:=hide hb
  by_cases hlt:k<L.length
  ·obtain rfl:=ha1 (by omega)
   obtain rfl:=ha2 (by omega)
   obtain⟨t1,n1,y1,q1,p1⟩:=HC1.out k hlt
   obtain⟨t2,n2,y2,q2,p2⟩:=HC2.out k hlt
   have hzk:=HZ.out k hlt
   obtain⟨d,hd⟩:∃d,L.getD k .zero=d:=⟨_,rfl⟩
   rw[hd]at p1 p2 hzk q1 q2
   have HE:=hide (eqNd_same (w:=wr.drew) hzk (p1.below hb.drew) (p2.below hb.drew))
   obtain⟨g0,g1,g2,g3,g4,g5⟩:=q1.below hb
   obtain⟨f0,f1,f2,f3,f4,f5⟩:=q2.below hb
   unfold nagg at HE
   obtain⟨K,N,T,M,Y,C⟩:=d
   simp only at HE g0 g1 g5 f0 f1 f5
   have hbs:=hb.size
   have hlti:(k:Int)<(L.length:Int):=by omega
   clear hb q1 q2 p1 p2 hd hzk
   go_wp2_with fail
   go_region_with (go_at_call 28;refine HE.out.mono ?_;rintro e w1 ⟨rfl,hb1⟩)
   all_goals have HB1:Hid (Below w.heap.size w w1):=HB.out.drew.trans (hb1.mono hbs)
   all_goals clear hb1
   all_goals go_wp2
   all_goals
    go_roundw
    case rel=>exact⟨k+1,by omega,by go_num,HB1.out⟩
    case measure=>simp[intOf];omega
  ·have hge:¬(k:Int)<(L.length:Int):=by omega
   clear hb
   go_wp2
   go_ret
   exact⟨rfl,HB.out⟩
theorem okN_nn {L:List Nd}:∀i,okN L i=true→0≤cn L i:=fun i h=>by
 unfold okN at h
 rw[Bool.and_eq_true]at h
 exact vCnt_nn h.2
theorem end_other {L:List Nd}(h0:0<L.length)(h:sE L.length (cn L) 60 0≠some L.length):(bE L.length (cn L) (okN L) (stN L) 60 0==L.length)=false:=by
 rw[beq_eq_false_iff_ne]
 intro g
 exact h ((bE_sE okN_nn 60 (Nat.le_refl _) 0 L.length h0 (by omega)).1 g).1
theorem end_good {L:List Nd}(h0:0<L.length)(h:sE L.length (cn L) 60 0=some L.length):(bE L.length (cn L) (okN L) (stN L) 60 0==L.length)=sG L.length (cn L) (okN L) (stN L) 60 0:=by
 have g:=bE_sE (okN_nn (L:=L)) (st:=stN L) 60 (Nat.le_refl _) 0 L.length h0 (by omega)
 rw[Bool.eq_iff_iff,beq_iff_eq,g]
 exact⟨fun x=>x.2,fun x=>⟨h,x⟩⟩
set_option maxHeartbeats 1000000 in
set_option maxRecDepth 1000000 in
theorem specValid_any (v:Value)(L:List Nd)(w:World)(hl:L.length≤1048576)(hz:∀j,j<L.length→NB (L.getD j .zero))(h:NS w v L):
 Calls Tryz.prog 21 #[v] w fun e w'=>e = .returned (.bool (vT L))∧Below w.heap.size w w':=by
 by_cases h0:L.length=0
 ·obtain⟨a,b,o,c,rfl,ha,hc⟩:=h
  have HV:=hide (vT_none h0)
  rw[h0]
  clear ha hc h0 hl hz
  go_enter Tryz.func21,Tryz.ntmps21
  go_wp2
  go_ret
  exact⟨by rw[HV.out];rfl,Below.refl _ _⟩
 have d0:decide ((L.length:Int)<1)=false:=decide_eq_false (by omega)
 by_cases h1:¬L.length≤4000
 ·obtain⟨a,b,o,c,rfl,ha,hc⟩:=h
  have HV:=hide (vT_long h1)
  have d1:decide ((4000:Int)<(L.length:Int))=true:=decide_eq_true (by omega)
  clear ha hc h0 hz h1
  go_enter Tryz.func21,Tryz.ntmps21
  go_wp2
  go_ret
  exact⟨by rw[HV.out];rfl,Below.refl _ _⟩
 have h1':L.length≤4000:=by omega
 have d1:decide ((4000:Int)<(L.length:Int))=false:=decide_eq_false (by omega)
 have HC:=hide (l2end_any v L hl 60 (Nat.le_refl _) 0 w (by omega) h)
 have HG:=hide (fun e=>l2good_any v L hl hz 60 (Nat.le_refl _) 0 e w)
 have HNS:=hide h
 obtain⟨a,b,o,c,rfl,ha,hc⟩:=h
 obtain rfl:=ha (by omega)
 obtain⟨vt,vn,vy,hN,_⟩:=hc 0 (by omega)
 have g0:=hN.kind
 rw[Nat.zero_mul,Nat.add_zero]at g0
 have hlI:(0:Int)<(L.length:Int):=by omega
 by_cases h2:(L.getD 0 .zero).kind=0
 ·have hVE:=vT_end (by omega) h1' h2
  rw[h2]at g0
  by_cases hs:sE L.length (cn L) 60 0=some L.length
  ·rw[end_good (by omega) hs]at hVE
   have HH:=hide (HG.out L.length hs HNS.out)
   rw[← hVE]at HH
   rw[hs]at HC
   have e2:(((L.length:Nat):Int)==((L.length:Nat):Int))=true:=by rw[beq_iff_eq]
   obtain⟨V,hV⟩:∃V,vT L=V:=⟨_,rfl⟩
   rw[hV]at HH ⊢
   unfold oi at HC
   clear ha hc hN hz h1 h1' h2 hVE hs HG h0 hV
   go_enter Tryz.func21,Tryz.ntmps21
   go_wp2_with fail
   refine HC.out.mono ?_
   rintro e w1 ⟨rfl,rfl⟩
   go_wp2_with fail
   refine HH.out.mono ?_
   rintro e w1 ⟨rfl,hb1⟩
   have HB:=hide hb1
   clear hb1
   go_wp2
   go_ret
   exact⟨rfl,HB.out⟩
  ·rw[end_other (by omega) hs]at hVE
   have HV:=hide hVE
   have e2:(oi (sE L.length (cn L) 60 0)==(L.length:Int))=false:=by
    rw[beq_eq_false_iff_ne]
    intro g
    cases hx:sE L.length (cn L) 60 0 with
    |none=>rw[hx]at g;have g':(-1:Int)=(L.length:Int):=g;omega
    |some q=>rw[hx]at g;have g':(q:Int)=(L.length:Int):=g;exact hs (by rw[hx,show q=L.length by omega])
   obtain⟨E,hE⟩:∃E,oi (sE L.length (cn L) 60 0)=E:=⟨_,rfl⟩
   rw[hE]at HC e2
   clear ha hc hN hz h1 h1' h2 hVE hs HG h0 hE
   go_enter Tryz.func21,Tryz.ntmps21
   go_wp2_with fail
   refine HC.out.mono ?_
   rintro e w1 ⟨rfl,rfl⟩
   go_wp2
   go_ret
   exact⟨by rw[HV.out];rfl,Below.refl _ _⟩
 ·have HV:=hide (vT_kind h2)
  have d2:((L.getD 0 .zero).kind != 0)=true:=by rw[bne_iff_ne];exact h2
  obtain⟨kk,hkk⟩:∃kk,(L.getD 0 .zero).kind=kk:=⟨_,rfl⟩
  rw[hkk]at g0 d2
  clear ha hc hN hz h1 h1' h2 hkk h0 HG HC
  go_enter Tryz.func21,Tryz.ntmps21
  go_wp2
  go_ret
  exact⟨by rw[HV.out];rfl,Below.refl _ _⟩
theorem BG.bs {w:World}{G:Nat→Prop}{v:Value}{s:ByteArray}(h:BG w G v s):BS w v s:=by
 obtain⟨a,g,c,h1,h2,h3⟩:=h
 refine⟨a,g,0,c,h1,fun hn=>(h2 hn).1,fun j hj=>?_⟩
 rw[Nat.zero_add]
 exact h3 (by omega) j _ (byv_at s j hj)
theorem RwG.is {w:World}{G:Nat→Prop}{v:Value}{l:List Int}(h:RwG w G v l.length (inv l)):IS w v l:=by
 obtain⟨a,g,c,h1,h2,h3⟩:=h
 refine⟨a,g,0,c,h1,fun hn=>(h2 hn).1,fun j hj=>?_⟩
 rw[Nat.zero_add]
 refine h3 (by omega) j _ ?_
 unfold inv
 rw[List.getElem?_map,List.getElem?_eq_getElem hj]
 simp[List.getD,hj]
theorem SG.ss {w:World}{G:Nat→Prop}{v:Value}{L:List ByteArray}(h:SG w G v L):SS w v L:=by
 obtain⟨M,h0,⟨a,g,c,h1,h2,h3⟩,h4⟩:=h
 refine⟨a,g,0,c,h1,fun hn=>(h2 hn).1,fun j hj=>?_⟩
 obtain⟨u,h5,h6⟩:=h4 j (L[j]'hj) (List.getElem?_eq_getElem hj)
 refine⟨u,?_,?_⟩
 ·rw[Nat.zero_add];exact h3 (by omega) j u h5
 ·have e:L.getD j .empty=L[j]'hj:=by simp[List.getD,hj]
  rw[e];exact h6.bs
theorem ncs_at : ∀(M:List Nv) (j:Nat) (m:Nv),M[j]?=some m→∀i,i<6→(ncs M)[j*6+i]?=m.cs[i]?
 | [],j,m,h,_,_=>by simp at h
 |a::M,0,m,h,i,hi=>by
  obtain rfl:a=m:=by simpa using h
  show (a.cs++ncs M)[0*6+i]?=_
  rw[Nat.zero_mul,Nat.zero_add,List.getElem?_append_left (by show i<6;exact hi)]
 |a::M,j+1,m,h,i,hi=>by
  show (a.cs++ncs M)[(j+1)*6+i]?=_
  rw[List.getElem?_append_right (by show 6≤_;omega)]
  rw[show (j+1)*6+i - a.cs.length=j*6+i by show _ - 6=_;omega]
  exact ncs_at M j m (by simpa using h) i hi
theorem NG.ns {w:World}{G:Nat→Prop}{v:Value}{L:List Nd}(h:NG w G v L):NS w v L∧∀j,j<L.length→NB (L.getD j .zero):=by
 obtain⟨M,h1,⟨a,g,c,h2,h3,h4⟩,h5⟩:=h
 have hl:M.length=L.length:=by rw[← h1,List.length_map]
 have key:∀j,j<L.length→∃m,M[j]?=some m∧m∈M∧L.getD j .zero=m.d:=fun j hj=>by
  have hj':j<M.length:=by omega
  obtain⟨m,hm⟩:∃m,M[j]?=some m:=⟨M[j],List.getElem?_eq_getElem hj'⟩
  refine⟨m,hm,List.mem_of_getElem? hm,?_⟩
  rw[List.getD_eq_getElem?_getD,← h1,List.getElem?_map,hm];rfl
 refine⟨⟨a,g,0,c,by rw[← hl];exact h2,fun hn=>(h3 (by omega)).1,fun j hj=>?_⟩,fun j hj=>?_⟩
 ·obtain⟨m,k1,k2,k3⟩:=key j hj
  have ok:=h5 m k2
  have cs:=h4 (by omega)
  have cell:∀i u,i<6→m.cs[i]?=some u→w.cell? ⟨g,0+j*6+i,none⟩=some u:=fun i u hi hu=>by
   rw[Nat.zero_add]
   exact cs _ u (by rw[ncs_at M j m k1 i hi];exact hu)
  rw[k3]
  exact⟨m.t,m.n,m.y,⟨cell 0 _ (by omega) rfl,cell 1 _ (by omega) rfl,cell 2 _ (by omega) rfl,cell 3 _ (by omega) rfl,cell 4 _ (by omega) rfl,cell 5 _ (by omega) rfl⟩,⟨ok.text.bs,ok.names.ss,ok.types.is⟩⟩
 ·obtain⟨m,k1,k2,k3⟩:=key j hj
  have ok:=h5 m k2
  rw[k3]
  exact⟨ok.b1,ok.b2,fun i hi=>by
   have e:m.d.names.getD i .empty=m.d.names[i]'hi:=by simp[List.getD,hi]
   rw[e];exact ok.b3 _ (List.getElem_mem hi),ok.b4⟩
end Go.Proofs.YtbiakdjpeblclaaGreatDoor
namespace Go.Proofs.YtbiakdjpeblclaaGreatDoor
theorem lex_len (s:ByteArray):∀f p acc,p≤s.size→(lex s f p acc).1.length+p≤acc.length+s.size
 |0,p,acc,h=>by simp only[lex];omega
 |f+1,p,acc,h=>by
  rw[lex]
  by_cases c:p<s.size
  ·rw[if_pos c]
   have hb:=bl_le s p c
   have ht:=tok_le s p c
   by_cases c1:0<bl s p
   ·rw[if_pos c1]
    have:=lex_len s f (p+(bl s p).toNat) acc (by omega)
    omega
   rw[if_neg c1]
   by_cases c2:bl s p<0
   ·rw[if_pos c2];simp only[List.length_nil];omega
   rw[if_neg c2]
   by_cases c3:(tok s p).2=0
   ·rw[if_pos c3];simp only[List.length_nil];omega
   rw[if_neg c3]
   have:=lex_len s f (p+(tok s p).2) (acc++[((tok s p).1,p,(tok s p).2)]) ht
   rw[List.length_append,List.length_singleton]at this
   omega
  ·rw[if_neg c];simp only;omega
theorem lexed_len (s:ByteArray):(lexed s).1.length≤5000:=by
 unfold lexed
 by_cases h:5000<s.size
 ·rw[if_pos h];simp
 ·rw[if_neg h]
  by_cases hg:(chk s).1=0
  ·rw[if_pos hg]
   have:=lex_len s (s.size+1) 0 [] (Nat.zero_le _)
   simp only[List.length_nil]at this
   omega
  ·rw[if_neg hg];simp
theorem tok_k5 (s:ByteArray)(p:Nat):(tok s p).1≤5:=by
 unfold tok
 repeat' split
 all_goals (simp only;omega)
theorem tok_in (s:ByteArray):∀f p acc,p≤s.size→(∀x∈acc,x.2.1+x.2.2≤s.size∧x.1≤5∧0<x.2.2)→∀x∈(lex s f p acc).1,x.2.1+x.2.2≤s.size∧x.1≤5∧0<x.2.2
 |0,p,acc,_,h=>h
 |f+1,p,acc,hp,h=>by
  rw[lex]
  by_cases c:p<s.size
  ·rw[if_pos c]
   have hb:=bl_le s p c
   have ht:=tok_le s p c
   by_cases c1:0<bl s p
   ·rw[if_pos c1];exact tok_in s f _ acc (by omega) h
   rw[if_neg c1]
   by_cases c2:bl s p<0
   ·rw[if_pos c2];intro x hx;cases hx
   rw[if_neg c2]
   by_cases c3:(tok s p).2=0
   ·rw[if_pos c3];intro x hx;cases hx
   rw[if_neg c3]
   refine tok_in s f _ _ ht (fun x hx=>?_)
   rcases List.mem_append.1 hx with q|q
   ·exact h x q
   ·rw[List.mem_singleton.1 q];exact⟨ht,tok_k5 s p,by show 0<(tok s p).2;omega⟩
  ·rw[if_neg c];exact h
theorem lexed_in (s:ByteArray)(i:Nat)(hi:i<(lexed s).1.length):((lexed s).1.getD i (0,0,0)).2.1+((lexed s).1.getD i (0,0,0)).2.2≤s.size∧((lexed s).1.getD i (0,0,0)).1≤5∧0<((lexed s).1.getD i (0,0,0)).2.2:=by
 have hm:(lexed s).1.getD i (0,0,0)∈(lexed s).1:=by
  rw[List.getD_eq_getElem?_getD,List.getElem?_eq_getElem hi];exact List.getElem_mem hi
 revert hm
 generalize (lexed s).1.getD i (0,0,0)=x
 intro hm
 unfold lexed at hm
 by_cases h:5000<s.size
 ·rw[if_pos h]at hm;cases hm
 ·rw[if_neg h]at hm
  by_cases hg:(chk s).1=0
  ·rw[if_pos hg]at hm;exact tok_in s _ _ _ (Nat.zero_le _) (fun x hx=>by cases hx) x hm
  ·rw[if_neg hg]at hm;cases hm
theorem lexed_short {s:ByteArray}(h:(lexed s).2.1=0):s.size≤5000:=by
 by_cases g:5000<s.size
 ·unfold lexed at h;rw[if_pos g]at h;cases h
 ·omega
end Go.Proofs.YtbiakdjpeblclaaGreatDoor

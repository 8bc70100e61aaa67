/-
  The walk of branchEnd.
-/
import Derived.Test.YtbiakdjpeblclaaGreatDoorJPaRH
import Derived.Test.YtbiakdjpeblclaaGreatDoorJPaVK2
import Derived.Test.YtbiakdjpeblclaaGreatDoorJPaPEV
namespace Go.Proofs.YtbiakdjpeblclaaGreatDoor
open Go.RowKit
def okN (L:List Nd)(i:Nat):Bool:=vFd (L.getD i .zero)&&vCnt (L.getD i .zero).kind (L.getD i .zero).count
def stN (L:List Nd)(p k i:Nat):Bool:=mSt (L.getD p .zero).kind k (L.getD i .zero).kind
theorem vCnt_nn {k c:Int}(h:vCnt k c=true):0≤c:=by
 rcases kinds k with g|g
 ·rcases g with rfl|rfl|rfl|rfl|rfl|rfl|rfl|rfl|rfl|rfl|rfl|rfl|rfl|rfl|rfl|rfl|rfl|rfl|rfl|rfl|rfl|rfl|rfl
  all_goals simp[vCnt]at h;omega
 ·rw[vCnt_none k c g]at h;cases h
theorem bE_le {L:List Nd}{f i e:Nat}(hf:f≤60)(hi:i<L.length)(he:e≠0)(h:bE L.length (cn L) (okN L) (stN L) f i=e):e≤L.length∧i<e:=by
 have hok:∀i,okN L i=true→0≤cn L i:=fun i h=>by
  unfold okN at h
  rw[Bool.and_eq_true]at h
  exact vCnt_nn h.2
 have hB:=sE_br _ _ _ _ _ ((bE_sE hok f hf i e hi he).1 h).1
 exact⟨hB.le,hB.lt⟩
set_option maxHeartbeats 4000000 in
set_option maxRecDepth 1000000 in
theorem branchEnd_any (v:Value)(L:List Nd)(hl:L.length≤1048576)(hz:∀j,j<L.length→NB (L.getD j .zero)):∀f:Nat,f≤60→∀D:Int,D=61 - f→∀(i:Nat) (w:World),i<L.length→NS w v L→Lib.Utf8Tabs 3 4 w→
 Calls Tryz.prog 56 #[v,.int .i64 i,.int .i64 D] w fun e w'=>e = .returned (.int .i64 (bE L.length (cn L) (okN L) (stN L) f i:Nat))∧Below w.heap.size w w':=by
 intro f
 induction f with
 |zero=>
  intro _ D hD i w hi h hT
  obtain rfl:D=61:=by omega
  obtain⟨a,b,o,c,rfl,ha,hc⟩:=h
  obtain rfl:=ha (by omega)
  obtain⟨vt,vn,vy,hN,hV⟩:=hc i hi
  have g0:=hN.kind
  have g1:=hN.n
  have g2:=hN.text
  have g3:=hN.names
  have g4:=hN.types
  have g5:=hN.count
  clear hc ha hN hT hD
  have HR:Hid (bE L.length (cn L) (okN L) (stN L) 0 i=0):=rfl
  obtain⟨d,hd⟩:∃d,L.getD i .zero=d:=⟨_,rfl⟩
  rw[hd]at g0 g1 g5 hV
  obtain⟨at_,ct,hvt⟩:∃a c,vt = .slice a d.text.size c:=by obtain⟨a,_,_,c,h,_⟩:=hV.text;exact⟨a,c,h⟩
  obtain⟨an,cn',hvn⟩:∃a c,vn = .slice a d.names.length c:=by obtain⟨a,_,_,c,h,_⟩:=hV.names;exact⟨a,c,h⟩
  obtain⟨ay,cy,hvy⟩:∃a c,vy = .slice a d.types.length c:=by obtain⟨a,_,_,c,h,_⟩:=hV.types;exact⟨a,c,h⟩
  subst hvt hvn hvy
  clear hd hV
  go_enter Tryz.func56,Tryz.ntmps56
  go_wp2
  go_ret
  exact⟨by rw[HR.out];rfl,(Below.refl _ _).alloc (Nat.le_refl _) _⟩
 |succ f ih=>
  intro hf D hD i w hi h hT
  have HIH:=hide (ih (by omega))
  have HNS:=hide h
  have HT:=hide hT
  have HBL:=hide (fun p e=>bE_le (L:=L) (f:=f) (i:=p) (e:=e) (by omega))
  obtain⟨a,b,o,c,rfl,ha,hc⟩:=h
  obtain rfl:=ha (by omega)
  have HCK:Hid (∀j,j<L.length→w.cell? ⟨b,o+j*6,none⟩=some (.int .i64 (L.getD j .zero).kind)):=fun j hj=>by
   obtain⟨_,_,_,hN,_⟩:=hc j hj
   exact hN.kind
  obtain⟨vt,vn,vy,hN,hV⟩:=hc i hi
  have HZ:=hz i hi
  have g0:=hN.kind
  have g1:=hN.n
  have g2:=hN.text
  have g3:=hN.names
  have g4:=hN.types
  have g5:=hN.count
  clear hc ha hN hT ih
  have HR:Hid (bE L.length (cn L) (okN L) (stN L) (f+1) i=if okN L i=true then bLoop L.length (stN L) (bE L.length (cn L) (okN L) (stN L) f) i (cn L i).toNat 0 (i+1) else 0):=rfl
  have HOK:Hid (okN L i=(vFd (L.getD i .zero)&&vCnt (L.getD i .zero).kind (L.getD i .zero).count)):=rfl
  have HST:Hid (∀k j,stN L i k j=mSt (L.getD i .zero).kind k (L.getD j .zero).kind):=fun _ _=>rfl
  have HCN:Hid (cn L i=(L.getD i .zero).count):=rfl
  obtain⟨d,hd⟩:∃d,L.getD i .zero=d:=⟨_,rfl⟩
  rw[hd]at g0 g1 g5 hV HZ HOK HCN
  simp only[hd]at HST
  obtain⟨at_,ct,hvt⟩:∃a c,vt = .slice a d.text.size c:=by obtain⟨a,_,_,c,h,_⟩:=hV.text;exact⟨a,c,h⟩
  obtain⟨an,cn',hvn⟩:∃a c,vn = .slice a d.names.length c:=by obtain⟨a,_,_,c,h,_⟩:=hV.names;exact⟨a,c,h⟩
  obtain⟨ay,cy,hvy⟩:∃a c,vy = .slice a d.types.length c:=by obtain⟨a,_,_,c,h,_⟩:=hV.types;exact⟨a,c,h⟩
  subst hvt hvn hvy
  clear hd
  obtain⟨W1,hW1⟩:∃W1,w.alloc (.cells #[.int .i64 d.kind,.int .i64 d.n,.slice at_ d.text.size ct,.slice an d.names.length cn',.slice ay d.types.length cy,.int .i64 d.count] 51)=W1:=⟨_,rfl⟩
  have hB1:Below w.heap.size w W1:=by rw[← hW1];exact (Below.refl _ _).alloc (Nat.le_refl _) _
  have hBk:Blk W1 w.heap.size 51 #[.int .i64 d.kind,.int .i64 d.n,.slice at_ d.text.size ct,.slice an d.names.length cn',.slice ay d.types.length cy,.int .i64 d.count]:=by rw[← hW1];exact Blk.new _ _ _
  have b0:=hBk.cell 0
  have b1:=hBk.cell 1
  have b2:=hBk.cell 2
  have b3:=hBk.cell 3
  have b4:=hBk.cell 4
  have b5:=hBk.cell 5
  simp only[List.getElem?_toArray,List.getElem?_cons_succ,List.getElem?_cons_zero]at b0 b1 b2 b3 b4 b5
  have HB1:=hide hB1
  have HW:=hide hW1
  have hF:=validFields_any d _ _ _ W1 (hV.below hB1) HZ (Utf8Tabs_below HT.out hB1)
  have HVC:=hide (fun w=>validCount_any d.kind d.count w)
  have HMS:=hide (fun (k:Nat) e w=>mayStand_any d.kind k e w)
  obtain⟨E,hE⟩:∃E,bE L.length (cn L) (okN L) (stN L) (f+1) i=E:=⟨_,rfl⟩
  obtain⟨F,hFF⟩:∃F,vFd d=F:=⟨_,rfl⟩
  obtain⟨G,hG⟩:∃G,vCnt d.kind d.count=G:=⟨_,rfl⟩
  have HG:=hide hG
  rw[hFF]at hF HOK
  simp only[hG]at HVC HOK
  rw[hE]at HR ⊢
  unfold nagg at hF
  have HF:=hide hF
  have hiI:(i:Int)≤1048576:=by omega
  have hD0:(1:Int)≤D:=by omega
  have hD1:D≤60:=by omega
  have HD:=hide hD
  have t0:decide ((60:Int)<D)=false:=decide_eq_false (by omega)
  clear hW1 hB1 hBk hV HZ hF hFF hG hE hD
  cases F with
  |false=>
   have HE:Hid (E=0):=by show _=_;rw[HR.out,HOK.out];rfl
   go_enter Tryz.func56,Tryz.ntmps56
   go_wp2_with fail
   rw[HW.out]
   go_wp2_with fail
   refine HF.out.mono ?_
   rintro e w2 ⟨rfl,hb2⟩
   have HB2:Hid (Below w.heap.size w w2):=HB1.out.trans (hb2.mono HB1.out.size)
   clear hb2
   go_wp2
   go_ret
   exact⟨by rw[HE.out];rfl,HB2.out⟩
  |true=>
   cases G with
   |false=>
    have HE:Hid (E=0):=by show _=_;rw[HR.out,HOK.out];rfl
    go_enter Tryz.func56,Tryz.ntmps56
    go_wp2_with fail
    rw[HW.out]
    go_wp2_with fail
    refine HF.out.mono ?_
    rintro e w2 ⟨rfl,hb2⟩
    have HB2:Hid (Below w.heap.size w w2):=HB1.out.trans (hb2.mono HB1.out.size)
    have q0:=cell_kept b0 hb2
    have q5:=cell_kept b5 hb2
    clear hb2
    go_wp2_with fail
    refine (HVC.out _).mono ?_
    rintro e w3 ⟨rfl,rfl⟩
    go_wp2
    go_ret
    exact⟨by rw[HE.out];rfl,HB2.out⟩
   |true=>
    have HE:Hid (E=bLoop L.length (stN L) (bE L.length (cn L) (okN L) (stN L) f) i d.count.toNat 0 (i+1)):=by show _=_;rw[HR.out,HOK.out,HCN.out];rfl
    have hC0:0≤d.count:=vCnt_nn HG.out
    obtain⟨C,hC⟩:∃C,d.count=C:=⟨_,rfl⟩
    rw[hC]at HE HF HVC g5 b5 hC0 HW
    clear hC HG HCN HOK HR
    go_enter Tryz.func56,Tryz.ntmps56
    go_wp2_with fail
    rw[HW.out]
    go_wp2_with fail
    refine HF.out.mono ?_
    rintro e w2 ⟨rfl,hb2⟩
    have HB2:Hid (Below w.heap.size w w2):=HB1.out.trans (hb2.mono HB1.out.size)
    have HBW2:=hide hb2
    have q0:=cell_kept b0 hb2
    have q5:=cell_kept b5 hb2
    clear hb2
    go_wp2_with fail
    refine (HVC.out _).mono ?_
    rintro e w3 ⟨rfl,rfl⟩
    go_wp2
    clear q0 q5 b1 b2 b3 b4 b5 g0 g1 g2 g3 g4 g5 HF HVC HW hz
    go_loopw [8,33] (fun x ix wr=>∃k p:Nat,k≤C.toNat∧k<p∧ix = .int .i64 k∧x = .int .i64 p∧p≤L.length∧bLoop L.length (stN L) (bE L.length (cn L) (okN L) (stN L) f) i (C.toNat - k) k p=E∧Below w.heap.size w wr∧Below W1.heap.size W1 wr) (fun _ ix _=>C.toNat - (intOf ix).toNat)
    case atStart=>exact⟨0,i+1,Nat.zero_le _,by omega,rfl,by go_num,by omega,HE.out.symm,HB2.out,HBW2.out⟩
    case round=>
     obtain⟨k,p,hk,hkp,rfl,rfl,hp,hs,hb,hbw⟩:=hrel
     have HB:=hide hb
     have HBW:=hide hbw
     have r0:=cell_kept b0 hbw
     by_cases hlt:k<C.toNat
     ·have hlti:decide ((k:Int)<C)=true:=decide_eq_true (by omega)
      have hsp:C.toNat - k=(C.toNat - (k+1))+1:=by omega
      rw[hsp,bLoop]at hs
      by_cases hpe:p=L.length
      ·have t1:((p:Int)==(L.length:Int))=true:=by rw[beq_iff_eq];omega
       rw[if_pos hpe]at hs
       have HS:=hide hs
       clear hs hpe hb hbw
       go_wp2_with fail
       go_region
       all_goals go_wp2
       all_goals go_ret
       all_goals exact⟨by rw[← HS.out];rfl,HB.out.drew⟩
      ·have hpl:p<L.length:=by omega
       have t1:((p:Int)==(L.length:Int))=false:=by rw[beq_eq_false_iff_ne];omega
       have hpi:(p:Int)<(L.length:Int):=by omega
       rw[if_neg hpe,HST.out k p]at hs
       have r1:=cell_kept (HCK.out p hpl) hb
       obtain⟨kk,hkk⟩:∃kk,(L.getD p .zero).kind=kk:=⟨_,rfl⟩
       rw[hkk]at r1 hs
       have HM:=hide (fun w=>HMS.out k kk w)
       obtain⟨S,hS⟩:∃S,mSt d.kind k kk=S:=⟨_,rfl⟩
       simp only[hS]at hs HM
       have HH:=hide (fun w2 (hb2:Below w.heap.size w w2)=>HIH.out (D+1) (by have:=HD.out;omega) p w2 hpl (HNS.out.below hb2) (Utf8Tabs_below HT.out hb2))
       have HLE:=hide (HBL.out p)
       obtain⟨Q,hQ⟩:∃Q,bE L.length (cn L) (okN L) (stN L) f p=Q:=⟨_,rfl⟩
       simp only[hQ]at hs HH HLE
       clear hpe hb hbw hkk hS hQ
       cases S with
       |false=>
        have HS:Hid (0=E):=by show _=_;simpa using hs
        clear hs
        go_wp2_with fail
        go_quiet ((go_at_call 90;exact Calls.quiet_of_same (HM.out _)))
        go_wp2
        go_ret
        exact⟨by rw[← HS.out];rfl,HB.out.trans ⟨rfl,rfl,rfl,Nat.le_refl _,fun _ _=>rfl⟩⟩
       |true=>
        have HDR:Hid (∀n,Below w.heap.size w (wr.drewN n)):=fun n=>HB.out.trans ⟨rfl,rfl,rfl,Nat.le_refl _,fun _ _=>rfl⟩
        have HDW:Hid (∀n,Below W1.heap.size W1 (wr.drewN n)):=fun n=>HBW.out.trans ⟨rfl,rfl,rfl,Nat.le_refl _,fun _ _=>rfl⟩
        by_cases hQ0:Q=0
        ·subst hQ0
         have HS:Hid (0=E):=by show _=_;simpa using hs
         clear hs
         go_wp2_with fail
         go_quiet ((go_at_call 90;exact Calls.quiet_of_same (HM.out _)))
         go_wp2_with fail
         refine (HH.out _ (HDR.out _)).mono ?_
         rintro e w6 ⟨rfl,hb6⟩
         have HB6:Hid (Below w.heap.size w w6):=(HDR.out _).trans (hb6.mono (HDR.out _).size)
         clear hb6
         go_wp2
         go_ret
         exact⟨by rw[← HS.out];rfl,HB6.out⟩
        ·have t2:((Q:Int)==0)=false:=by rw[beq_eq_false_iff_ne];omega
         have HS:Hid (bLoop L.length (stN L) (bE L.length (cn L) (okN L) (stN L) f) i (C.toNat - (k+1)) (k+1) Q=E):=by
          show _=_;simpa [hQ0] using hs
         obtain⟨hQL,hQp⟩:=HLE.out Q hpl hQ0 rfl
         clear hs
         go_wp2_with fail
         go_quiet ((go_at_call 90;exact Calls.quiet_of_same (HM.out _)))
         go_wp2_with fail
         refine (HH.out _ (HDR.out _)).mono ?_
         rintro e w6 ⟨rfl,hb6⟩
         have HB6:Hid (Below w.heap.size w w6):=(HDR.out _).trans (hb6.mono (HDR.out _).size)
         have HBW6:Hid (Below W1.heap.size W1 w6):=(HDW.out _).trans (hb6.mono (HDW.out _).size)
         clear hb6
         go_wp2
         go_roundw
         case rel=>exact⟨k+1,Q,by omega,by omega,by go_num,rfl,hQL,HS.out,HB6.out,HBW6.out⟩
         case measure=>simp[intOf];omega
     ·have hlti:decide ((k:Int)<C)=false:=decide_eq_false (by omega)
      have HE2:Hid (E=p):=by show _=_;rw[← hs,show C.toNat - k=0 by omega,bLoop]
      clear hs hb hbw
      go_wp2
      go_ret
      exact⟨by rw[HE2.out];rfl,HB.out⟩
def vT (L:List Nd):Bool:=decide (0<L.length)&&(decide (L.length≤4000)&&(((L.getD 0 .zero).kind==0)&&(bE L.length (cn L) (okN L) (stN L) 60 0==L.length)))
theorem vT_none {L:List Nd}(h:L.length=0):vT L=false:=by unfold vT;rw[decide_eq_false (by omega),Bool.false_and]
theorem vT_long {L:List Nd}(h:¬L.length≤4000):vT L=false:=by unfold vT;rw[decide_eq_false h,Bool.false_and,Bool.and_false]
theorem vT_kind {L:List Nd}(h:(L.getD 0 .zero).kind≠0):vT L=false:=by unfold vT;rw[beq_eq_false_iff_ne.2 h,Bool.false_and,Bool.and_false,Bool.and_false]
theorem vT_end {L:List Nd}(h0:0<L.length)(h1:L.length≤4000)(h2:(L.getD 0 .zero).kind=0):vT L=(bE L.length (cn L) (okN L) (stN L) 60 0==L.length):=by
 unfold vT;rw[decide_eq_true h0,decide_eq_true h1,beq_iff_eq.2 h2,Bool.true_and,Bool.true_and,Bool.true_and]
set_option maxHeartbeats 1000000 in
set_option maxRecDepth 1000000 in
theorem implValid_any (v:Value)(L:List Nd)(w:World)(hl:L.length≤1048576)(hz:∀j,j<L.length→NB (L.getD j .zero))(h:NS w v L)(hT:Lib.Utf8Tabs 3 4 w):
 Calls Tryz.prog 27 #[v] w fun e w'=>e = .returned (.bool (vT L))∧Below w.heap.size w w':=by
 by_cases h0:L.length=0
 ·obtain⟨a,b,o,c,rfl,ha,hc⟩:=h
  have HV:=hide (vT_none h0)
  rw[h0]
  clear ha hc h0 hl hz hT
  go_enter Tryz.func27,Tryz.ntmps27
  go_wp2
  go_ret
  exact⟨by rw[HV.out];rfl,Below.refl _ _⟩
 have d0:((L.length:Int)==0)=false:=by rw[beq_eq_false_iff_ne];omega
 by_cases h1:¬L.length≤4000
 ·obtain⟨a,b,o,c,rfl,ha,hc⟩:=h
  have HV:=hide (vT_long h1)
  have d1:decide ((4000:Int)<(L.length:Int))=true:=decide_eq_true (by omega)
  clear ha hc h0 hz hT h1
  go_enter Tryz.func27,Tryz.ntmps27
  go_wp2
  go_ret
  exact⟨by rw[HV.out];rfl,Below.refl _ _⟩
 have h1':L.length≤4000:=by omega
 have d1:decide ((4000:Int)<(L.length:Int))=false:=decide_eq_false (by omega)
 have HC:=hide (branchEnd_any v L hl hz 60 (Nat.le_refl _) 1 (by omega) 0 w (by omega) h hT)
 obtain⟨a,b,o,c,rfl,ha,hc⟩:=h
 obtain rfl:=ha (by omega)
 obtain⟨vt,vn,vy,hN,_⟩:=hc 0 (by omega)
 have g0:=hN.kind
 rw[Nat.zero_mul,Nat.add_zero]at g0
 by_cases h2:(L.getD 0 .zero).kind=0
 ·have HV:=hide (vT_end (by omega) h1' h2)
  rw[h2]at g0
  obtain⟨V,hV⟩:∃V,vT L=V:=⟨_,rfl⟩
  obtain⟨E,hE⟩:∃E,bE L.length (cn L) (okN L) (stN L) 60 0=E:=⟨_,rfl⟩
  rw[hV,hE]at HV
  rw[hE]at HC
  rw[hV,HV.out]
  have e2:=nat_beq E L.length
  have HE:=hide e2
  have hlI:(0:Int)<(L.length:Int):=by omega
  clear ha hc hN hz hT h1 h1' h2 hE hV e2 h0
  go_enter Tryz.func27,Tryz.ntmps27
  go_wp2_with fail
  refine HC.out.mono ?_
  rintro e w1 ⟨rfl,hb1⟩
  have HB:=hide hb1
  clear hb1
  go_wp2
  go_ret
  exact⟨by rw[← HE.out];rfl,HB.out⟩
 ·have HV:=hide (vT_kind h2)
  have d2:((L.getD 0 .zero).kind != 0)=true:=by rw[bne_iff_ne];exact h2
  obtain⟨kk,hkk⟩:∃kk,(L.getD 0 .zero).kind=kk:=⟨_,rfl⟩
  rw[hkk]at g0 d2
  have hlI:(0:Int)<(L.length:Int):=by omega
  clear ha hc hN hz hT h1 h1' h2 hkk h0
  go_enter Tryz.func27,Tryz.ntmps27
  go_wp2
  go_ret
  exact⟨by rw[HV.out];rfl,Below.refl _ _⟩
def UnC (c:PsC)(e:PsE)(f:Nat):Prop:=∀w p,PsW w c e p→2*lft e p+2≤f→Calls Tryz.prog 66 #[.pointer (some ⟨c.P,0,none⟩)] w (ExQ c e w (rU e f p))
def ExC (c:PsC)(e:PsE)(f:Nat):Prop:=∀(l:Nat) w p,l≤100→PsW w c e p→2*lft e p+3≤f→Calls Tryz.prog 40 #[.pointer (some ⟨c.P,0,none⟩),.int .i64 (l:Nat)] w (ExQ c e w (rE e f l p))
theorem unary_any {c:PsC}{e:PsE}{f:Nat}(IHu:UnC c e f)(IHe:ExC c e f):UnC c e (f+1):=fun w p h hf=>by
 cases n0:e.is p (⟨#[33]⟩:ByteArray) with
 |true=>exact unary_not h IHu hf n0
 |false=>
 cases n1:e.is p (⟨#[45]⟩:ByteArray) with
 |true=>exact unary_neg h IHu hf n0 n1
 |false=>
 cases n2:e.is p (⟨#[40]⟩:ByteArray) with
 |true=>exact unary_par h (fun w p hp hl=>IHe 1 w p (by omega) hp hl) hf n0 n1 n2
 |false=>
 cases n3:e.is p (⟨#[116,114,117,101]⟩:ByteArray) with
 |true=>exact unary_true h n0 n1 n2 n3
 |false=>
 cases n4:e.is p (⟨#[102,97,108,115,101]⟩:ByteArray) with
 |true=>exact unary_false h n0 n1 n2 n3 n4
 |false=>
 by_cases k3:e.kind p=3
 ·exact unary_int h n0 n1 n2 n3 n4 k3
 by_cases k4:e.kind p=4
 ·exact unary_text h n0 n1 n2 n3 n4 k3 k4
 exact unary_name h n0 n1 n2 n3 n4 k3 k4
structure ExI (w V:World)(c:PsC)(e:PsE)(X:Nat)(x:Pt)(p:Ps)(vt vp:Value):Prop where
 st:RSt w V c e p
 xb:Blk V X 45 #[vt,vp]
 xl:w.heap.size<X
 pv:PV V (fun g=>w.heap.size<g∧g≠X) vt vp x
theorem ExI.rd {w V V':World}{c:PsC}{e:PsE}{X:Nat}{x:Pt}{p p':Ps}{vt vp:Value}(h:ExI w V c e X x p vt vp)(hq:RdQ c e p' V V'):ExI w V' c e X x p' vt vp:=
 ⟨h.st.rd hq,hq.2.blk h.xb (by have:=h.xl;have:=h.st.lt;show ¬X=c.P;omega),h.xl,h.pv.gw hq.2 (fun k hk=>by rw[hk];have:=h.st.lt;omega)⟩
theorem ExI.below {w V V':World}{c:PsC}{e:PsE}{X:Nat}{x:Pt}{p:Ps}{vt vp:Value}(h:ExI w V c e X x p vt vp)(hb:Below V.heap.size V V'):ExI w V' c e X x p vt vp:=
 ⟨h.st.below hb,h.xb.below hb,h.xl,h.pv.gw (P:=fun _=>False) (Gw.of_below hb) (fun _ q=>q.elim)⟩
theorem opAt_rng (e:PsE)(p:Ps):∀k, -1≤opAt e p k∧opAt e p k<k
 |0=>by rw[opAt];omega
 |k+1=>by
  have:=opAt_rng e p k
  rw[opAt]
  split<;>omega
theorem ExI.put {w V:World}{c:PsC}{e:PsE}{X:Nat}{x y:Pt}{p:Ps}{vt vp ut up:Value}(h:ExI w V c e X x p vt vp)(hv:PV V (fun g=>w.heap.size<g∧g≠X) ut up y):ExI w ((V.setCell ⟨X,0,none⟩ ut).setCell ⟨X,1,none⟩ up) c e X y p ut up:=by
 have g1:Gw (· = X) V ((V.setCell ⟨X,0,none⟩ ut).setCell ⟨X,1,none⟩ up):=(Gw.set V _ 0 ut).trans (Gw.set _ _ 1 up) (fun _ _ q=>q)
 have hx:=h.xl
 have hp:=h.st.lt
 have hb:=h.st.ps
 have n:c.P≠X:=by omega
 refine⟨⟨⟨(hb.blk.other 0 ut n).other 1 up n,hb.sa,fun j hj=>g1.cell (hb.src j hj) (by show ¬c.b=X;have:=(hb.sa (by omega)).2;omega),hb.cap,hb.ta,fun i hi=>?_,hb.tin,hb.tl,hb.szl,hb.at_,hb.bad⟩,h.st.gw.trans g1 (fun j hj q=>by omega),((h.st.res.other 0 ut (by omega)).other 1 up (by omega)),hp⟩,(h.xb.set 0 ut).set 1 up,hx,hv.gw g1 (fun k hk q=>q.2 hk)⟩
 have n:¬c.tb=X:=by have:=(hb.ta (by omega)).2;omega
 exact⟨g1.cell (hb.tok i hi).1 n,g1.cell (hb.tok i hi).2.1 n,g1.cell (hb.tok i hi).2.2 n⟩
def atW (c:PsC)(w:World):Nat:=match w.cell? ⟨c.P,2,none⟩ with|some v=>(intOf v).toNat|none=>0
theorem atW_of {w:World}{c:PsC}{e:PsE}{p:Ps}(h:PsW w c e p):atW c w=p.at_:=by
 unfold atW
 rw[h.cells.2.2.1]
 simp[intOf]
set_option maxHeartbeats 8000000 in
set_option maxRecDepth 1000000 in
theorem expr_step {c:PsC}{e:PsE}{f:Nat}(IHu:UnC c e f)(IHe:∀g,g≤f→ExC c e g):ExC c e (f+1):=fun l w p hl h hf=>by
 have hS0:=RSt.start h
 have htl:=h.tl
 obtain⟨W0,hW0⟩:∃W,w.alloc (.cells #[.slice none 0 0,.slice none 0 0] 45)=W:=⟨_,rfl⟩
 rw[hW0]at hS0
 have HS0:=hide hS0
 have HU:=hide (IHu W0 p hS0.ps (by omega))
 have hBU:=(bd_expr e f).2.2 p
 have hMU:=(mv_expr e f).2.2 p
 have HE:Hid (rE e (f+1) l p=rEl e f l (rU e f p).1 (rU e f p).2):=by show _=_;rw[rE]
 have hfi:=fi_le (e:=e) p
 have hbl:=hBU.len
 have hml:=hMU.le
 have HF0:Hid (2*lft e (rU e f p).2+2≤f∧(rU e f p).1.t.length+fi e (rU e f p).2≤20010):=⟨by unfold lft at hf ⊢;omega,by omega⟩
 obtain⟨X0,hX0⟩:∃X,rU e f p=X:=⟨_,rfl⟩
 rw[hX0]at HU HE HF0
 obtain⟨F,hF⟩:∃F,rE e (f+1) l p=F:=⟨_,rfl⟩
 rw[hF]at HE ⊢
 clear hF
 clear hS0 h IHu hf hX0 hBU hMU hfi hbl hml
 go_enter Tryz.func40,Tryz.ntmps40
 go_wp2_with fail
 refine HU.out.mono ?_
 rintro r V1 ⟨ut,up,rfl,hv,hq⟩
 have hS1:=HS0.out.rd hq
 have hvR:=hv.mono (G':=fun g=>w.heap.size<g∧g≠V1.heap.size) (fun g hg hl=>⟨Nat.lt_of_lt_of_le HS0.out.size hg,Nat.ne_of_lt hl⟩)
 obtain⟨xa,xc,xb,xd,rfl,rfl,_,_⟩:=hvR.slc
 obtain⟨V2,hV2⟩:∃W,V1.alloc (.cells #[.slice none 0 0,.slice none 0 0] 45)=W:=⟨_,rfl⟩
 have hbA:Below V1.heap.size V1 V2:=by rw[← hV2];exact (Below.refl _ _).alloc (Nat.le_refl _) _
 have hBK:Blk V2 V1.heap.size 45 #[.slice none 0 0,.slice none 0 0]:=by rw[← hV2];exact Blk.new _ _ _
 have q0:=hBK.cell 0
 have q1:=hBK.cell 1
 have qf0:=hBK.frozen 0
 have qf1:=hBK.frozen 1
 simp only[List.getElem?_toArray,List.getElem?_cons_succ,List.getElem?_cons_zero]at q0 q1
 obtain⟨V3,hV3⟩:∃W,(V2.setCell ⟨V1.heap.size,0,none⟩ (.slice (some ⟨xa,0,none⟩) X0.1.t.length xc)).setCell ⟨V1.heap.size,1,none⟩ (.slice (some ⟨xb,0,none⟩) X0.1.t.length xd)=W:=⟨_,rfl⟩
 have hbB:Below V1.heap.size V1 V3:=by rw[← hV3];exact (hbA.setCell (Nat.le_refl _) _).setCell (Nat.le_refl _) _
 have HI0:Hid (ExI w V3 c e V1.heap.size X0.1 X0.2 (.slice (some ⟨xa,0,none⟩) X0.1.t.length xc) (.slice (some ⟨xb,0,none⟩) X0.1.t.length xd)):=
  ⟨hS1.below hbB,by rw[← hV3];exact (hBK.set 0 _).set 1 _,hS1.size,hvR.gw (P:=fun _=>False) (Gw.of_below hbB) (fun _ q=>q.elim)⟩
 clear hv hvR hq hS1 hbA hBK hbB HU HS0
 go_wp2_with fail
 obtain⟨X,hX⟩:∃X,V1.heap.size=X:=⟨_,rfl⟩
 rw[hX]at HI0 ⊢
 clear hX q0 q1 qf0 qf1 hV2 hV3 hW0
 go_loopw [6] (fun _ wr=>∃(g:Nat) (x:Pt) (p:Ps) (vt vp:Value),g≤f∧2*lft e p+2≤g∧x.t.length+fi e p≤20010∧rEl e g l x p=F∧ExI w wr c e X x p vt vp) (fun _ wr=>e.T.length - atW c wr)
 case atStart=>exact⟨f,X0.1,X0.2,_,_,Nat.le_refl _,HF0.out.1,HF0.out.2,HE.out.symm,HI0.out⟩
 case round=>
  obtain⟨g,x,p,vt,vp,hg,hgl,hxl,hE,hI⟩:=hrel
  rename World=>V
  have HI:=hide hI
  have HKD:=hide (l2kind_any hI.st.ps)
  have hmu:=atW_of hI.st.ps
  clear hI HI0 HF0 HE
  cases g with
  |zero=>omega
  |succ g=>
  rw[rEl]at hE
  by_cases k5:e.kind p=5
  ·rw[if_pos k5]at hE
   rw[k5]at HKD
   have hkp:=kind_pos (e:=e) (p:=p) (by omega)
   go_wp2_with fail
   refine HKD.out.mono ?_
   rintro r V' ⟨rfl,m0,rfl⟩
   have HI1:=hide (HI.out.below (below_drewN (Below.refl _ _) m0))
   clear HI HKD
   go_wp2_with fail
   go_loopw [6,7] (fun ox ix wr=>∃k:Nat,k≤14∧ix = .int .i64 k∧ox = .int .i64 (opAt e p k)∧ExI w wr c e X x p vt vp) (fun _ ix _=>14 - (intOf ix).toNat)
   case atStart=>exact⟨0,by omega,rfl,rfl,HI1.out⟩
   case round=>
    obtain⟨k,hk,rfl,rfl,hI⟩:=hrel
    have HI2:=hide hI
    clear hI HI1
    by_cases hlt:k<14
    ·have hlti:(k:Int)<14:=by omega
     have HSG:=hide (fun W=>l2sign_any k hlt W)
     have HOP:Hid (opAt e p (k+1)=if e.is p (sgW.getD k ⟨#[]⟩)=true then (k:Int) else opAt e p k):=by show _=_;rw[opAt]
     obtain⟨S,hS⟩:∃S,sgW.getD k ⟨#[]⟩=S:=⟨_,rfl⟩
     simp only[hS]at HSG HOP
     clear hS
     go_wp2_with fail
     refine (HSG.out _).mono ?_
     rintro r Z1 ⟨rfl,hb⟩
     have HI3:=hide (HI2.out.below hb)
     clear hb HI2
     go_wp2_with fail
     refine (l2is_any _ HI3.out.st.ps).mono ?_
     rintro r Z2 ⟨rfl,hb⟩
     have HI4:=hide (HI3.out.below hb)
     clear hb HI3
     cases hi:e.is p S with
     |true=>
      have HO:Hid (opAt e p (k+1)=(k:Int)):=by show _=_;rw[HOP.out,if_pos hi]
      go_wp2
      go_roundw
      case rel=>exact⟨k+1,by omega,by go_num,by rw[HO.out],HI4.out⟩
      case measure=>simp[intOf];omega
     |false=>
      have HO:Hid (opAt e p (k+1)=opAt e p k):=by show _=_;rw[HOP.out,if_neg (by rw[hi];exact Bool.false_ne_true)]
      go_wp2
      go_roundw
      case rel=>exact⟨k+1,by omega,by go_num,by rw[HO.out],HI4.out⟩
      case measure=>simp[intOf];omega
    ·obtain rfl:k=14:=by omega
     have hr:=opAt_rng e p 14
     obtain⟨o,ho⟩:∃o,opAt e p 14=o:=⟨_,rfl⟩
     rw[ho]at hr hE ⊢
     clear ho hk hlt
     by_cases ho:o<0
     ·rw[if_pos (.inl ho)]at hE
      have d0:decide (o<0)=true:=decide_eq_true ho
      have z0:=HI2.out.xb.cell 0
      have z1:=HI2.out.xb.cell 1
      have r0:=HI2.out.st.res.cell 0
      have r1:=HI2.out.st.res.cell 1
      have f0:=HI2.out.st.res.frozen 0
      have f1:=HI2.out.st.res.frozen 1
      simp only[List.getElem?_toArray,List.getElem?_cons_succ,List.getElem?_cons_zero]at z0 z1 r0 r1
      obtain⟨ya,yc,yb,yd,rfl,rfl,_,_⟩:=HI2.out.pv.slc
      go_wp2_with fail
      refine bodyPost_ret (results_one rfl _ _ _ w.heap.size 45 _ (0,0) rfl ((HI2.out.st.res.set 0 _).set 1 _) Tryz.underlying45 (by kernel_rfl)) rfl ?_
      rw[← hE]
      exact HI2.out.st.fin (HI2.out.pv.mono (fun g hg _=>hg.1))
     ·have d0:decide (o<0)=false:=decide_eq_false ho
      obtain⟨q,rfl⟩:∃q:Nat,o=(q:Int):=⟨o.toNat,by omega⟩
      have hq14:q<14:=by omega
      rw[show ((q:Int)).toNat=q by omega]at hE
      have hb6:sgB.getD q 0≤6:=by
       have hh:q=0∨q=1∨q=2∨q=3∨q=4∨q=5∨q=6∨q=7∨q=8∨q=9∨q=10∨q=11∨q=12∨q=13:=by omega
       rcases hh with rfl|rfl|rfl|rfl|rfl|rfl|rfl|rfl|rfl|rfl|rfl|rfl|rfl|rfl<;>decide
      have HBI:=hide (fun W=>l2bind_any q hq14 W)
      obtain⟨bq,hbq⟩:∃b,sgB.getD q 0=b:=⟨_,rfl⟩
      simp only[hbq]at HBI hE hb6
      clear hbq hr
      go_wp2_with fail
      refine (HBI.out _).mono ?_
      rintro r Z1 ⟨rfl,hb⟩
      have HI3:=hide (HI2.out.below hb)
      clear hb HI2
      by_cases hbl:bq<l
      ·rw[if_pos (.inr hbl)]at hE
       have d1:(bq:Int)<(l:Int):=by omega
       have z0:=HI3.out.xb.cell 0
       have z1:=HI3.out.xb.cell 1
       have r0:=HI3.out.st.res.cell 0
       have r1:=HI3.out.st.res.cell 1
       have f0:=HI3.out.st.res.frozen 0
       have f1:=HI3.out.st.res.frozen 1
       simp only[List.getElem?_toArray,List.getElem?_cons_succ,List.getElem?_cons_zero]at z0 z1 r0 r1
       obtain⟨ya,yc,yb,yd,rfl,rfl,_,_⟩:=HI3.out.pv.slc
       go_wp2_with fail
       refine bodyPost_ret (results_one rfl _ _ _ w.heap.size 45 _ (0,0) rfl ((HI3.out.st.res.set 0 _).set 1 _) Tryz.underlying45 (by kernel_rfl)) rfl ?_
       rw[← hE]
       exact HI3.out.st.fin (HI3.out.pv.mono (fun g hg _=>hg.1))
      ·rw[if_neg (by omega)]at hE
       have d1:¬(bq:Int)<(l:Int):=by omega
       have hpl:=PsE.place_le HI3.out.st.ps
       have HPL:=hide (l2place_any HI3.out.st.ps)
       obtain⟨pl,hplE⟩:∃a,e.place p=a:=⟨_,rfl⟩
       rw[hplE]at hpl HPL hE
       clear hplE
       go_wp2_with fail
       refine HPL.out.mono ?_
       rintro r Z2 ⟨rfl,m1,rfl⟩
       have HI4:=hide (HI3.out.below (below_drewN (Below.refl _ _) m1))
       have g2:=HI4.out.st.ps.cells.2.2.1
       have fz2:=HI4.out.st.ps.fz 2
       obtain⟨Z3,hZ3⟩:∃W,(Z1.drewN m1).setCell ⟨c.P,2,none⟩ (.int .i64 ((p.at_:Nat)+1:Int))=W:=⟨_,rfl⟩
       have hq2:RdQ c e p.on (Z1.drewN m1) Z3:=by rw[← hZ3];exact HI4.out.st.ps.one (p':=p.on) rfl (by show p.at_+1≤_;omega) HI4.out.st.ps.bad
       have HI5:=hide (HI4.out.rd hq2)
       clear hq2 HI3 HI4 HPL
       go_wp2_with fail
       refine (HBI.out _).mono ?_
       rintro r Z4 ⟨rfl,hb⟩
       have HI6:=hide (HI5.out.below hb)
       have hlo:2*lft e p.on+3≤g:=by unfold lft at hgl ⊢;show 2*(e.T.length - (p.at_+1))+3≤g;omega
       have HX:=hide (IHe g (by omega) (bq+1) Z4 p.on (by omega) HI6.out.st.ps hlo)
       have hBX:=((bd_expr e g).1 (bq+1) p.on).len
       have hMX:=((mv_expr e g).1 (bq+1) p.on).le
       have hon:=fi_on (e:=e) (p:=p) (by omega)
       obtain⟨Y,hY⟩:∃Y,rE e g (bq+1) p.on=Y:=⟨_,rfl⟩
       rw[hY]at HX hE hBX hMX
       have hMX':p.at_+1≤Y.2.at_:=hMX
       clear hb HI5 hY hlo hMX
       go_wp2_with fail
       refine HX.out.mono ?_
       rintro r Z5 ⟨ut,up,rfl,hv,hq⟩
       have hI7:=HI6.out.rd hq
       have hvR:=hv.mono (G':=fun g=>w.heap.size<g∧g≠X) (fun g hg _=>by have h1:=HI6.out.st.size;have h2:=HI6.out.xb.lt;exact⟨by omega,by omega⟩)
       obtain⟨ua,uc,ub,ud,rfl,rfl,_,_⟩:=hvR.slc
       obtain⟨Z6,hZ6⟩:∃W,Z5.alloc (.cells #[.slice none 0 0,.slice none 0 0] 45)=W:=⟨_,rfl⟩
       have hbA:Below Z5.heap.size Z5 Z6:=by rw[← hZ6];exact (Below.refl _ _).alloc (Nat.le_refl _) _
       have hBK:Blk Z6 Z5.heap.size 45 #[.slice none 0 0,.slice none 0 0]:=by rw[← hZ6];exact Blk.new _ _ _
       have q0:=hBK.cell 0
       have q1:=hBK.cell 1
       have qf0:=hBK.frozen 0
       have qf1:=hBK.frozen 1
       simp only[List.getElem?_toArray,List.getElem?_cons_succ,List.getElem?_cons_zero]at q0 q1
       obtain⟨Z7,hZ7⟩:∃W,(Z6.setCell ⟨Z5.heap.size,0,none⟩ (.slice (some ⟨ua,0,none⟩) Y.1.t.length uc)).setCell ⟨Z5.heap.size,1,none⟩ (.slice (some ⟨ub,0,none⟩) Y.1.t.length ud)=W:=⟨_,rfl⟩
       have hbB:Below Z5.heap.size Z5 Z7:=by rw[← hZ7];exact (hbA.setCell (Nat.le_refl _) _).setCell (Nat.le_refl _) _
       have hYB:Blk Z7 Z5.heap.size 45 #[.slice (some ⟨ua,0,none⟩) Y.1.t.length uc,.slice (some ⟨ub,0,none⟩) Y.1.t.length ud]:=by rw[← hZ7];exact (hBK.set 0 _).set 1 _
       have hI8:=hI7.below hbB
       have hvY:=hvR.gw (P:=fun _=>False) (Gw.of_below hbB) (fun _ q=>q.elim)
       obtain⟨ya,yc,yb,yd,rfl,rfl,_,_⟩:=hI8.pv.slc
       have y0:=hYB.cell 0
       have y1:=hYB.cell 1
       have x0:=hI8.xb.cell 0
       have x1:=hI8.xb.cell 1
       simp only[List.getElem?_toArray,List.getElem?_cons_succ,List.getElem?_cons_zero]at y0 y1 x0 x1
       obtain⟨Z8,hZ8⟩:∃W,Z7.alloc (.cells #[.slice (some ⟨ya,0,none⟩) x.t.length yc,.slice (some ⟨yb,0,none⟩) x.t.length yd,.slice (some ⟨ua,0,none⟩) Y.1.t.length uc,.slice (some ⟨ub,0,none⟩) Y.1.t.length ud] 45)=W:=⟨_,rfl⟩
       have hbC:Below Z7.heap.size Z7 Z8:=by rw[← hZ8];exact (Below.refl _ _).alloc (Nat.le_refl _) _
       have hRB:Blk Z8 Z7.heap.size 45 #[.slice (some ⟨ya,0,none⟩) x.t.length yc,.slice (some ⟨yb,0,none⟩) x.t.length yd,.slice (some ⟨ua,0,none⟩) Y.1.t.length uc,.slice (some ⟨ub,0,none⟩) Y.1.t.length ud]:=by rw[← hZ8];exact Blk.new _ _ _
       have HI9:=hide (hI8.below hbC)
       have HPR:=hide (pr_two hRB (by have h1:=hI8.st.size;have h2:=hI8.xb.lt;exact⟨by omega,by omega⟩) (hI8.pv.gw (P:=fun _=>False) (Gw.of_below hbC) (fun _ q=>q.elim)) (hvY.gw (P:=fun _=>False) (Gw.of_below hbC) (fun _ q=>q.elim)))
       have hln:1+nsl [x,Y.1]≤20010:=by rw[nsl_two];omega
       have hl2:1+nsl [x,Y.1]+fi e Y.2≤20010:=by rw[nsl_two];omega
       clear hv hvR hq hI7 hbA hBK hbB hYB hI8 hvY hbC hRB HX HI6
       go_wp2_with fail
       refine (l2node_any (m:=⟨{ ndK 20 with n:=(q:Int) },.slice none 0 0,.slice none 0 0,.slice none 0 0⟩) (pl:=pl) (G:=fun g=>w.heap.size<g∧g≠X) (nv_plain _ _ 20 q) HPR.out (fun g hg=>by have h1:=HI9.out.st.size;have h2:=HI9.out.xb.lt;exact⟨by omega,by omega⟩) (by omega) (by simp)).mono ?_
       rintro r Z9 ⟨nt,np,rfl,hv,hb⟩
       have hI10:=HI9.out.below hb
       obtain⟨na,nc,nb,nd,rfl,rfl,_,_⟩:=hv.slc
       have xx0:=hI10.xb.cell 0
       have xx1:=hI10.xb.cell 1
       have xf0:=hI10.xb.frozen 0
       have xf1:=hI10.xb.frozen 1
       simp only[List.getElem?_toArray,List.getElem?_cons_succ,List.getElem?_cons_zero]at xx0 xx1
       obtain⟨Z10,hZ10⟩:∃W,(Z9.setCell ⟨X,0,none⟩ (.slice (some ⟨na,0,none⟩) (ptN { ndK 20 with n:=(q:Int) } pl [x,Y.1]).t.length nc)).setCell ⟨X,1,none⟩ (.slice (some ⟨nb,0,none⟩) (ptN { ndK 20 with n:=(q:Int) } pl [x,Y.1]).t.length nd)=W:=⟨_,rfl⟩
       have HI11:Hid (ExI w Z10 c e X (ptN { ndK 20 with n:=(q:Int) } pl [x,Y.1]) Y.2 (.slice (some ⟨na,0,none⟩) (ptN { ndK 20 with n:=(q:Int) } pl [x,Y.1]).t.length nc) (.slice (some ⟨nb,0,none⟩) (ptN { ndK 20 with n:=(q:Int) } pl [x,Y.1]).t.length nd)):=by
        rw[← hZ10]
        exact hI10.put hv
       have hmu2:=atW_of HI11.out.st.ps
       clear hv hb hI10 HI9 HPR
       go_wp2
       go_roundw
       case rel=>exact⟨g,_,_,_,_,by omega,by unfold lft at hgl ⊢;omega,by rw[ptN_len];exact hl2,hE,HI11.out⟩
       case measure=>rw[hmu,hmu2];omega
  ·rw[if_neg k5]at hE
   have d5:(((e.kind p:Nat):Int)==5)=false:=by rw[beq_eq_false_iff_ne];omega
   obtain⟨K,hK⟩:∃K,e.kind p=K:=⟨_,rfl⟩
   rw[hK]at HKD d5
   clear hK k5
   go_wp2_with fail
   refine HKD.out.mono ?_
   rintro r V' ⟨rfl,m0,rfl⟩
   have HI1:=hide (HI.out.below (below_drewN (Below.refl _ _) m0))
   clear HI HKD
   have z0:=HI1.out.xb.cell 0
   have z1:=HI1.out.xb.cell 1
   have r0:=HI1.out.st.res.cell 0
   have r1:=HI1.out.st.res.cell 1
   have f0:=HI1.out.st.res.frozen 0
   have f1:=HI1.out.st.res.frozen 1
   simp only[List.getElem?_toArray,List.getElem?_cons_succ,List.getElem?_cons_zero]at z0 z1 r0 r1
   obtain⟨ya,yc,yb,yd,rfl,rfl,_,_⟩:=HI1.out.pv.slc
   go_wp2_with fail
   refine bodyPost_ret (results_one rfl _ _ _ w.heap.size 45 _ (0,0) rfl ((HI1.out.st.res.set 0 _).set 1 _) Tryz.underlying45 (by kernel_rfl)) rfl ?_
   rw[← hE]
   exact HI1.out.st.fin (HI1.out.pv.mono (fun g hg _=>hg.1))
end Go.Proofs.YtbiakdjpeblclaaGreatDoor

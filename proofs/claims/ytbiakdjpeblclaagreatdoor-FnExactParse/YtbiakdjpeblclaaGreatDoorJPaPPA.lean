/-
  The walk of spec.Parse.
-/
import Derived.Test.YtbiakdjpeblclaaGreatDoorJPaPMD
import Derived.Test.YtbiakdjpeblclaaGreatDoorJPaIN2
import Derived.Test.YtbiakdjpeblclaaGreatDoorJPaQMT
import Derived.Test.YtbiakdjpeblclaaGreatDoorJPaQAS
import Derived.Test.YtbiakdjpeblclaaGreatDoorJPaRH
import Derived.Test.YtbiakdjpeblclaaGreatDoorJPaVB
import Derived.Test.YtbiakdjpeblclaaGreatDoorJPaQPL
namespace Go.Proofs.YtbiakdjpeblclaaGreatDoor
open Go.RowKit
def psA (s:ByteArray):(List Nd × List Nat) × Int × Int:=
 if (lexed s).2.1≠0 then (([],[]),((lexed s).2.1:Nat),((lexed s).2.2:Nat))
 else if 0≤(rProg s (lexed s).1).2.bad then (([],[]),3,(rProg s (lexed s).1).2.bad)
 else if (rProg s (lexed s).1).2.long=true∨vT (rProg s (lexed s).1).1.t=false then (([],[]),4,0)
 else (((rProg s (lexed s).1).1.t,(rProg s (lexed s).1).1.p),0,0)
def PaQ (w:World)(x:(List Nd × List Nat) × Int × Int)(r:Ending)(w':World):Prop:=
 ∃vt vp,r = .returned (.tuple #[vt,vp,.int .i64 x.2.1,.int .i64 x.2.2])∧NG w' (fun g=>w.heap.size≤g) vt x.1.1∧RwG w' (fun g=>w.heap.size≤g) vp x.1.2.length (plv x.1.2)∧Below w.heap.size w w'
theorem paq_nil {w w':World}{a b:Int}(hb:Below w.heap.size w w'):PaQ w (([],[]),a,b) (.returned (.tuple #[.slice none 0 0,.slice none 0 0,.int .i64 a,.int .i64 b])) w':=
 ⟨_,_,rfl,⟨[],rfl,RwG.nil _ _ _ _,fun m hm=>absurd hm (by simp)⟩,RwG.nil _ _ _ _,hb⟩
theorem results_tmp4 {fn:Func}{t u v x:Tmp}(h:fn.results = #[.tmp t,.tmp u,.tmp v,.tmp x])(tmps:Array Value)(P:Program)(w:World):
 (results fn tmps).run P w = .ok (.tuple #[tmps.getD t undef,tmps.getD u undef,tmps.getD v undef,tmps.getD x undef]) w:=by
 simp[results,h]
theorem CSt.bsz {w V:World}{c:PsC}{e:PsE}{p:Ps}(h:CSt w V c e p):w.heap.size≤V.heap.size:=h.size
theorem CSt.appK {w V V':World}{c:PsC}{e:PsE}{p:Ps}{B:Nat}{G:Nat→Prop}{v:Value}{ks:List Pt}(h:CSt w V c e p)(hk:KO V B G v ks)(hB:w.heap.size≤B)(hg:V.grownBy V' v.ownBlock):CSt w V' c e p:=by
 obtain⟨M,h1,_⟩:=hk
 exact h.app h1 hB hg
set_option maxHeartbeats 16000000 in
set_option maxRecDepth 1000000 in
theorem specParse_gen {w:World}{s:ByteArray}{a0:Option Addr}{b o cap:Nat}(hcap:s.size≤cap)(ha:0<s.size→a0=some ⟨b,o,none⟩)(hc:∀j,j<s.size→w.cell? ⟨b,o+j,none⟩=some (bts s j))
 (hL:Calls Tryz.prog 15 #[.slice a0 s.size cap] w fun r w'=>LexGives w w' r (lexed s)):
 Calls Tryz.prog 4 #[.slice a0 s.size cap] w (PaQ w (psA s)):=by
 have HL:=hide hL
 have hT5:=lexed_len s
 have HTI:=hide (lexed_in s)
 have HSH:Hid ((lexed s).2.1=0→s.size≤5000):=fun h=>lexed_short h
 have HPA:Hid (psA s=if (lexed s).2.1≠0 then (([],[]),(((lexed s).2.1:Nat):Int),(((lexed s).2.2:Nat):Int)) else if 0≤(rProg s (lexed s).1).2.bad then (([],[]),3,(rProg s (lexed s).1).2.bad) else if (rProg s (lexed s).1).2.long=true∨vT (rProg s (lexed s).1).1.t=false then (([],[]),4,0) else (((rProg s (lexed s).1).1.t,(rProg s (lexed s).1).1.p),0,0)):=rfl
 obtain⟨T,K,A,hLX⟩:∃T K A,lexed s=(T,K,A):=⟨_,_,_,rfl⟩
 rw[hLX]at HL hT5 HTI HSH HPA
 simp only at hT5 HTI HSH HPA
 rw[HPA.out]
 clear hL hLX HPA
 by_cases hK:K≠0
 ·rw[if_pos hK]
  have t0:((K:Int) != 0)=true:=by rw[bne_iff_ne];omega
  go_enter Tryz.func4,Tryz.ntmps4
  go_wp2_with fail
  refine HL.out.mono ?_
  rintro r V ⟨v',rfl,ho,hb⟩
  have HB:=hide hb
  obtain⟨va,vc,rfl⟩:=own_sl ho
  clear hb ho
  go_wp2
  refine bodyPost_ret (results_tmp4 rfl _ _ _) rfl ?_
  exact paq_nil HB.out
 ·rw[if_neg hK]
  have hK0:K=0:=by omega
  subst hK0
  have hs5:=HSH.out rfl
  have HF:Hid (∀F,rTop ⟨s,T⟩ (2*T.length+3) (T.length+1) (T.length+1) [] ⟨0, -1,false⟩=F→rProg s T=(ptN (ndK 0) 0 F.1,F.2)):=fun F hF=>by rw[← hF];rfl
  have hBT:=bd_top ⟨s,T⟩ (2*T.length+3) (T.length+1) (T.length+1) [] ⟨0, -1,false⟩ (fun x hx=>absurd hx (by simp))
  have hfl:=fi_le (e:=⟨s,T⟩) ⟨0, -1,false⟩
  rw[nsl_nil]at hBT
  obtain⟨F,hF⟩:∃F,rTop ⟨s,T⟩ (2*T.length+3) (T.length+1) (T.length+1) [] ⟨0, -1,false⟩=F:=⟨_,rfl⟩
  rw[hF]at hBT
  have HNL:Hid (nsl F.1≤20010∧F.1.length≤5001):=⟨by have:=hBT.1;show nsl F.1≤_;simp only at hfl;omega,by have:=hBT.2.2;simp only[List.length_nil]at this;omega⟩
  have hRP:=HF.out F hF
  rw[hRP]
  simp only
  obtain⟨RR,hRR⟩:∃R,(if 0≤F.2.bad then (([],[]),3,F.2.bad) else if F.2.long=true∨vT (ptN (ndK 0) 0 F.1).t=false then (([],[]),4,0) else (((ptN (ndK 0) 0 F.1).t,(ptN (ndK 0) 0 F.1).p),0,0):(List Nd × List Nat) × Int × Int)=R:=⟨_,rfl⟩
  rw[hRR]
  have HRR:=hide hRR
  clear hRR
  have HFE:=hide hF
  clear hF HF hBT hfl hRP hK HSH
  go_enter Tryz.func4,Tryz.ntmps4
  go_wp2_with fail
  refine HL.out.mono ?_
  rintro r V ⟨v',rfl,ho,hb⟩
  obtain⟨ta,tc,rfl⟩:=own_sl ho
  simp only at ho
  obtain⟨W4,hW4⟩:∃W,V.alloc (.cells #[.slice a0 s.size cap,.slice ta T.length tc,.int .i64 0,.int .i64 (-1),.bool false] 40)=W:=⟨_,rfl⟩
  have hbA:Below V.heap.size V W4:=by rw[← hW4];exact (Below.refl _ _).alloc (Nat.le_refl _) _
  have hBW:Below w.heap.size w W4:=hb.trans (hbA.mono hb.size)
  have hPb:Blk W4 V.heap.size 40 #[.slice a0 s.size cap,.slice ta T.length tc,.int .i64 0,.int .i64 (-1),.bool false]:=by rw[← hW4];exact Blk.new _ _ _
  obtain⟨ta',tb,tc',et,htb,htc⟩:=RwG.of_own (G:=fun g=>w.heap.size≤g) ho (fun g hg=>hg)
  injection et with et1 et2 et3
  subst et1 et3
  have hTC:TCells V tb T:=fun i hi=>by
   have h3:=tcv_at T i hi
   have cs:=htc (by omega)
   exact⟨cs _ _ h3.1,cs _ _ h3.2.1,cs _ _ h3.2.2⟩
  have hPS:PsW W4 ⟨V.heap.size,a0,b,o,cap,ta,tb,tc⟩ ⟨s,T⟩ ⟨0, -1,false⟩:=by
   refine⟨hPb,fun h=>⟨ha h,?_⟩,fun j hj=>cell_kept (hc j hj) hBW,hcap,fun h=>⟨(htb h).1,?_⟩,fun i hi=>?_,fun i hi=>HTI.out i hi,hT5,hs5,Nat.zero_le _,⟨by show (-1:Int)≤ -1;omega,by show (-1:Int)≤5000;omega⟩⟩
   ·exact Nat.lt_of_lt_of_le (World.block_lt_of_cell? _ _ (hc 0 h)) hb.size
   ·exact World.block_lt_of_cell? _ _ (hTC 0 h).1
   ·exact⟨cell_kept (hTC i hi).1 hbA,cell_kept (hTC i hi).2.1 hbA,cell_kept (hTC i hi).2.2 hbA⟩
  obtain⟨c,hcE⟩:∃c:PsC,c = ⟨V.heap.size,a0,b,o,cap,ta,tb,tc⟩:=⟨_,rfl⟩
  obtain⟨e,heE⟩:∃e:PsE,e = ⟨s,T⟩:=⟨_,rfl⟩
  have hcP:c.P=V.heap.size:=by rw[hcE]
  have heT:e.T=T:=by rw[heE]
  rw[← hcE,← heE]at hPS
  rw[← heE]at HFE
  have HS0:=hide (CSt.start hPS)
  have HBW:=hide hBW
  have HPV:Hid (w.heap.size≤c.P):=by rw[hcP];exact hb.size
  have HTL:Hid (e.T.length=T.length):=by show _=_;rw[heT]
  clear hb ho hbA hBW hPb htb htc hTC hPS hcE heE heT et2 HL HTI
  go_wp2_with fail
  rw[← hcP]
  clear hW4 hcP
  go_loopw [10] (fun vx wr=>∃(cc:Nat) (ks:List Pt) (p:Ps),rTop e (2*T.length+3) (T.length+1) cc ks p=F∧(p.bad<0→lft e p+1≤cc)∧ks.length+cc≤T.length+1∧CSt W4 wr c e p∧KO wr W4.heap.size (fun g=>W4.heap.size≤g) vx ks) (fun _ wr=>muW e c wr)
  case atStart=>exact⟨T.length+1,[],⟨0, -1,false⟩,HFE.out,fun _=>by unfold lft;rw[HTL.out];show T.length - 0+1≤_;omega,by simp,HS0.out,KO.nil _ _ _⟩
  case round=>
   obtain⟨cc,ks,p,hR,hN,hcc,hS,hK⟩:=hrel
   rename World=>V1
   obtain⟨va,vc,rfl⟩:=hK.slc
   have HS:=hide hS
   have HK:=hide hK
   have hmu:=muW_of hS.ps
   have g3:=hS.ps.cells.2.2.2.1
   have g2:=hS.ps.cells.2.2.1
   have hat:=hS.ps.at_
   have hatT:p.at_≤T.length:=by rw[← HTL.out];exact hat
   have hf:2*e.T.length+3≤2*T.length+3:=by rw[HTL.out];exact Nat.le_refl _
   clear hK hS HFE HS0
   by_cases hb:p.bad<0
   ·have d0:decide (p.bad<0)=true:=decide_eq_true hb
    have n1:=hN hb
    by_cases hl:p.at_<T.length
    ·have hlT:p.at_<e.T.length:=by rw[HTL.out];exact hl
     cases cc with
     |zero=>omega
     |succ cc=>
     rw[rTop,if_pos ⟨hb,hlT⟩]at hR
     have hpl:=PsE.place_le HS.out.ps
     have HPL:=hide (l2place_any HS.out.ps)
     obtain⟨pl,hplE⟩:∃q,e.place p=q:=⟨_,rfl⟩
     rw[hplE]at hpl HPL hR
     clear hplE
     go_wp2_with fail
     refine HPL.out.mono ?_
     rintro r V2 ⟨rfl,m0,rfl⟩
     have HS1:=hide (HS.out.below (below_drewN (Below.refl _ _) m0))
     have HK1:=hide (HK.out.bel (below_drewN (Below.refl _ _) m0))
     clear HS HK HPL
     go_wp2_with fail
     refine (l2got_any (⟨#[109,97,99,114,111]⟩:ByteArray) HS1.out.ps).mono ?_
     rintro r V3 ⟨rfl,hq⟩
     have HS2:=hide (HS1.out.rd hq)
     have HK2:=hide (HK1.out.rd (Nat.le_refl _) HS1.out.lt hq)
     clear hq HS1 HK1 g2 g3
     cases hi:e.is p (⟨#[109,97,99,114,111]⟩:ByteArray) with
     |true=>
      rw[hi,if_pos rfl]at HS2
      rw[if_pos hi]at hR
      have hk:=mv_on (is_kind hi)
      have HCX:Hid (∀V,PsW V c e p.on→Calls Tryz.prog 18 #[.pointer (some ⟨c.P,0,none⟩),.int .i64 (pl:Nat)] V (ExQ c e V (rMac e (2*T.length+3) (T.length+1) pl p.on))):=fun V hV=>macro_any hV hf (by unfold lft;rw[HTL.out];omega) (by show 1≤p.at_+1;omega)
      have hMV:=hk.1.trans (mv_mac e (2*T.length+3) (T.length+1) pl p.on)
      have hPG:=hk.2.then (mv_mac e (2*T.length+3) (T.length+1) pl p.on)
      obtain⟨X,hX⟩:∃X,rMac e (2*T.length+3) (T.length+1) pl p.on=X:=⟨_,rfl⟩
      rw[hX]at hR HCX hMV hPG
      clear hX hk
      have HLN:Hid (X.2.bad<0→lft e X.2+1≤cc):=fun q=>by
       rcases hPG with g|g
       ·omega
       ·have:=hMV.top hat;have:=HTL.out;unfold lft at n1 ⊢;omega
      have hmd:=mu_dec hb hat hMV hPG
      clear hMV hPG
      go_wp2_with fail
      refine (HCX.out _ HS2.out.ps).mono ?_
      rintro r V8 ⟨vt,vp,rfl,hv,hq⟩
      have HSx:=hide (HS2.out.rd hq)
      have HKx:=hide (HK2.out.rd (Nat.le_refl _) HS2.out.lt hq)
      obtain⟨xa8,xc8,xb8,xd8,rfl,rfl,_,_⟩:=hv.slc
      have HMx:=hide (ms_lastG HK2.out (fun g hg=>Nat.le_trans HS2.out.size hg) hv (.cells #[.slice (some ⟨xa8,0,none⟩) X.1.t.length xc8,.slice (some ⟨xb8,0,none⟩) X.1.t.length xd8] 45))
      have hbA:Below V8.heap.size V8 (V8.alloc (.cells #[.slice (some ⟨xa8,0,none⟩) X.1.t.length xc8,.slice (some ⟨xb8,0,none⟩) X.1.t.length xd8] 45)):=(Below.refl _ _).alloc (Nat.le_refl _) _
      have HBx:=hide (Cs.of_blk (Blk.new V8 45 #[.slice (some ⟨xa8,0,none⟩) X.1.t.length xc8,.slice (some ⟨xb8,0,none⟩) X.1.t.length xd8]))
      have HSy:=hide (HSx.out.below hbA)
      have HKy:=hide (HKx.out.bel hbA)
      clear hv hq hbA HS2 HK2 HSx HKx
      go_wp2_with (at_builtin;refine wp_appKO rfl (.tmp 45) (.tmp 49) rfl (W4.heap.size) rfl HKy.out V8.heap.size 1 1 rfl rfl HMx.out HBx.out (by simp;omega) (HSy.out.bsz) ?_)
      intro v' V8b hk4 hg4
      have HS8:=hide (HSy.out.appK HKy.out (Nat.le_refl _) hg4)
      have HK8:=hide hk4
      obtain⟨wa8,wc8,rfl⟩:=hk4.slc
      clear hk4 hg4 HSy HKy HMx HBx
      have hmu2:=muW_of HS8.out.ps
      go_wp2
      go_roundw
      case rel=>exact⟨cc,_,X.2,hR,HLN.out,by rw[List.length_append,List.length_singleton];omega,HS8.out,HK8.out⟩
      case measure=>rw[hmu,hmu2];exact hmd
     |false=>
      rw[hi,if_neg Bool.false_ne_true]at HS2
      rw[if_neg (by rw[hi];exact Bool.false_ne_true)]at hR
      have HCX:Hid (∀V,PsW V c e p→Calls Tryz.prog 19 #[.pointer (some ⟨c.P,0,none⟩)] V (ExQ c e V (rS e (2*T.length+3) (T.length+1) p))):=fun V hV=>st_all hf (T.length+1) V p hV (by unfold lft;rw[HTL.out];omega)
      have hMV:=mv_stat e (2*T.length+3) (T.length+1) p
      have hPG:=pg_stat e (2*T.length+3) T.length p
      obtain⟨X,hX⟩:∃X,rS e (2*T.length+3) (T.length+1) p=X:=⟨_,rfl⟩
      rw[hX]at hR HCX hMV hPG
      clear hX
      have HLN:Hid (X.2.bad<0→lft e X.2+1≤cc):=fun q=>by
       rcases hPG with g|g
       ·omega
       ·have:=hMV.top hat;have:=HTL.out;unfold lft at n1 ⊢;omega
      have hmd:=mu_dec hb hat hMV hPG
      clear hMV hPG
      go_wp2_with fail
      refine (HCX.out _ HS2.out.ps).mono ?_
      rintro r V8 ⟨vt,vp,rfl,hv,hq⟩
      have HSx:=hide (HS2.out.rd hq)
      have HKx:=hide (HK2.out.rd (Nat.le_refl _) HS2.out.lt hq)
      obtain⟨xa8,xc8,xb8,xd8,rfl,rfl,_,_⟩:=hv.slc
      have HMx:=hide (ms_lastG HK2.out (fun g hg=>Nat.le_trans HS2.out.size hg) hv (.cells #[.slice (some ⟨xa8,0,none⟩) X.1.t.length xc8,.slice (some ⟨xb8,0,none⟩) X.1.t.length xd8] 45))
      have hbA:Below V8.heap.size V8 (V8.alloc (.cells #[.slice (some ⟨xa8,0,none⟩) X.1.t.length xc8,.slice (some ⟨xb8,0,none⟩) X.1.t.length xd8] 45)):=(Below.refl _ _).alloc (Nat.le_refl _) _
      have HBx:=hide (Cs.of_blk (Blk.new V8 45 #[.slice (some ⟨xa8,0,none⟩) X.1.t.length xc8,.slice (some ⟨xb8,0,none⟩) X.1.t.length xd8]))
      have HSy:=hide (HSx.out.below hbA)
      have HKy:=hide (HKx.out.bel hbA)
      clear hv hq hbA HS2 HK2 HSx HKx
      go_wp2_with (at_builtin;refine wp_appKO rfl (.tmp 51) (.tmp 54) rfl (W4.heap.size) rfl HKy.out V8.heap.size 1 1 rfl rfl HMx.out HBx.out (by simp;omega) (HSy.out.bsz) ?_)
      intro v' V8b hk4 hg4
      have HS8:=hide (HSy.out.appK HKy.out (Nat.le_refl _) hg4)
      have HK8:=hide hk4
      obtain⟨wa8,wc8,rfl⟩:=hk4.slc
      clear hk4 hg4 HSy HKy HMx HBx
      have hmu2:=muW_of HS8.out.ps
      go_wp2
      go_roundw
      case rel=>exact⟨cc,_,X.2,hR,HLN.out,by rw[List.length_append,List.length_singleton];omega,HS8.out,HK8.out⟩
      case measure=>rw[hmu,hmu2];exact hmd
    ·have hR':(ks,p)=F:=by
      cases cc with
      |zero=>exact hR
      |succ cc=>rw[rTop,if_neg (fun q=>hl (by have:=q.2;rw[HTL.out]at this;exact this))]at hR;exact hR
     obtain rfl:F=(ks,p):=hR'.symm
     have d2:¬(p.at_:Int)<(T.length:Int):=by omega
     have d1:decide (0≤p.bad)=false:=decide_eq_false (by omega)
     have hRR:=HRR.out
     rw[if_neg (by show ¬0≤p.bad;omega)]at hRR
     have hnl:=HNL.out
     have HPR:=hide ((HK.out.mono (G':=fun g=>w.heap.size≤g) (fun g hg _=>by have:=HBW.out.size;omega)).pr (fun g hg=>by have:=HBW.out.size;omega))
     have hVw:w.heap.size≤V1.heap.size:=Nat.le_trans HBW.out.size HS.out.size
     clear HRR HNL hR hR'
     go_wp2_with fail
     refine (l2node_any (m:=⟨ndK 0,.slice none 0 0,.slice none 0 0,.slice none 0 0⟩) (pl:=0) (G:=fun g=>w.heap.size≤g) (nv_plain _ _ 0 0) HPR.out (fun g hg=>Nat.le_trans hVw hg) (by omega) (by omega)).mono ?_
     rintro r Vz ⟨vt,vp,rfl,hv,hbz⟩
     have hSz:=HS.out.below hbz
     have hvl:(ptN (ndK 0) 0 ks).t.length≤1048576:=by rw[ptN_len];omega
     obtain⟨ga,gc,gb,gd,rfl,rfl,_,_⟩:=hv.slc
     obtain⟨Vo,hVo⟩:∃W,Vz.alloc (.cells #[.slice none 0 0,.slice none 0 0] 45)=W:=⟨_,rfl⟩
     have hbO:Below Vz.heap.size Vz Vo:=by rw[← hVo];exact (Below.refl _ _).alloc (Nat.le_refl _) _
     have hOb:Blk Vo Vz.heap.size 45 #[.slice none 0 0,.slice none 0 0]:=by rw[← hVo];exact Blk.new _ _ _
     have q0:=hOb.cell 0
     have q1:=hOb.cell 1
     have qf0:=hOb.frozen 0
     have qf1:=hOb.frozen 1
     simp only[List.getElem?_toArray,List.getElem?_cons_succ,List.getElem?_cons_zero]at q0 q1
     obtain⟨PT,hPT⟩:∃t,ptN (ndK 0) 0 ks=t:=⟨_,rfl⟩
     rw[hPT]at hv hvl hRR
     simp only[hPT]
     obtain⟨Vp,hVp⟩:∃W,(Vo.setCell ⟨Vz.heap.size,0,none⟩ (.slice (some ⟨ga,0,none⟩) PT.t.length gc)).setCell ⟨Vz.heap.size,1,none⟩ (.slice (some ⟨gb,0,none⟩) PT.t.length gd)=W:=⟨_,rfl⟩
     have hbP:Below Vz.heap.size Vz Vp:=by rw[← hVp];exact (hbO.setCell (Nat.le_refl _) _).setCell (Nat.le_refl _) _
     have hPb:Blk Vp Vz.heap.size 45 #[.slice (some ⟨ga,0,none⟩) PT.t.length gc,.slice (some ⟨gb,0,none⟩) PT.t.length gd]:=by rw[← hVp];exact (hOb.set 0 _).set 1 _
     have hSp:=hSz.below hbP
     have hvp:=hv.gw (P:=fun _=>False) (Gw.of_below hbP) (fun _ q=>q.elim)
     have g4:=hSp.ps.cells.2.2.2.2
     have HBL:Hid (∀V,Below Vp.heap.size Vp V→Below w.heap.size w V):=fun V hV=>(hSp.gw.below HBW.out HBW.out.size (fun k hk q=>by have:=HPV.out;omega)).trans (hV.mono (by have:=hSp.size;have:=HBW.out.size;omega))
     obtain⟨hNS,hNB⟩:=hvp.t.ns
     have HVT:=hide (specValid_any _ _ Vp hvl hNB hNS)
     have HVP:=hide hvp
     have HPb:=hide hPb
     have z0:=hPb.cell 0
     have z1:=hPb.cell 1
     simp only[List.getElem?_toArray,List.getElem?_cons_succ,List.getElem?_cons_zero]at z0 z1
     clear hv hvp hbz hbO hOb hbP hSp hSz hNS hNB HS HK HPR hPT g2 g3 hPb
     by_cases hlg:p.long=true
     ·rw[hlg]at g4
      rw[if_pos (.inl hlg)]at hRR
      have HRE:=hide hRR
      clear hRR
      go_wp2
      refine bodyPost_ret (results_tmp4 rfl _ _ _) rfl ?_
      rw[← HRE.out]
      exact paq_nil (HBL.out _ (Below.refl _ _))
     ·have hlf:p.long=false:=by cases h:p.long<;>simp_all
      rw[hlf]at g4
      go_wp2_with fail
      refine HVT.out.mono ?_
      rintro r Vv ⟨rfl,hbv⟩
      cases hvt:vT PT.t with
      |false=>
       rw[if_pos (.inr hvt)]at hRR
       have HRE:=hide hRR
       have HBv:=hide (HBL.out _ hbv)
       clear hRR hbv
       go_wp2
       refine bodyPost_ret (results_tmp4 rfl _ _ _) rfl ?_
       rw[← HRE.out]
       exact paq_nil HBv.out
      |true=>
       rw[if_neg (fun q=>by rcases q with q|q;exact hlg q;rw[hvt]at q;cases q)]at hRR
       have HRE:=hide hRR
       have HBv:=hide (HBL.out _ hbv)
       have y0:=cell_kept z0 hbv
       have y1:=cell_kept z1 hbv
       have HVv:=hide (HVP.out.gw (P:=fun _=>False) (Gw.of_below hbv) (fun _ q=>q.elim))
       clear hRR hbv z0 z1
       go_wp2_with fail
       go_quiet (fail)
       go_wp2
       refine bodyPost_ret (results_tmp4 rfl _ _ _) rfl ?_
       rw[← HRE.out]
       have hvd:=HVv.out.gw (P:=fun _=>False) (Gw.of_below (below_drewN (Below.refl _ Vv) nq)) (fun _ q=>q.elim)
       exact⟨_,_,rfl,hvd.t,by rw[hvd.same];have:=hvd.p;rw[hvd.same]at this;exact this,below_drewN HBv.out nq⟩
   ·have d0:decide (p.bad<0)=false:=decide_eq_false hb
    have d1:decide (0≤p.bad)=true:=decide_eq_true (by omega)
    have hR':(ks,p)=F:=by
     cases cc with
     |zero=>exact hR
     |succ cc=>rw[rTop,if_neg (fun q=>hb q.1)]at hR;exact hR
    obtain rfl:F=(ks,p):=hR'.symm
    have hRR:=HRR.out
    rw[if_pos (by show 0≤p.bad;omega)]at hRR
    have HRE:=hide hRR
    have HBv:Hid (Below w.heap.size w V1):=HS.out.gw.below HBW.out HBW.out.size (fun k hk q=>by have:=HPV.out;omega)
    clear hRR HRR hR hR' HS HK
    go_wp2_with fail
    go_quiet (fail)
    go_wp2
    refine bodyPost_ret (results_tmp4 rfl _ _ _) rfl ?_
    rw[← HRE.out]
    exact paq_nil (below_drewN HBv.out nq)
def PiQ (w:World)(x:(List Nd × List Nat) × Int × Int)(r:Ending)(w':World):Prop:=
 ∃vt vp M B0,r = .returned (.tuple #[vt,vp,.int .i64 x.2.1,.int .i64 x.2.2])∧w.heap.size≤B0∧M.map Nv.d=x.1.1∧OdL w' (Iv w.heap.size B0) M∧w'.ownsRow B0 51 6 vt M.length (ncs M)∧w'.ownsRow B0 3 1 vp x.1.2.length (plv x.1.2)∧Below w.heap.size w w'
theorem piq_nil {w w':World}{a b:Int}(hb:Below w.heap.size w w'):PiQ w (([],[]),a,b) (.returned (.tuple #[.slice none 0 0,.slice none 0 0,.int .i64 a,.int .i64 b])) w':=
 ⟨_,_,[],w.heap.size,rfl,Nat.le_refl _,rfl,⟨fun _ _=>False,fun _ _ _ _ h=>h.elim,fun _ _ h=>h.elim,fun i m h=>by simp at h⟩,World.ownsRow_nil _ _ _ _,World.ownsRow_nil _ _ _ _,hb⟩
theorem Rs4.start (w:World):Rs4 ((((w.alloc (.cells #[.slice none 0 0] 23)).alloc (.cells #[.slice none 0 0] 24)).alloc (.cells #[.int .i64 0] 3)).alloc (.cells #[.int .i64 0] 3)) w.heap.size (.slice none 0 0) (.slice none 0 0) 0 0:=by
 have h1:=Blk.new w 23 #[.slice none 0 0]
 have h2:=Blk.new (w.alloc (.cells #[.slice none 0 0] 23)) 24 #[.slice none 0 0]
 have h3:=Blk.new ((w.alloc (.cells #[.slice none 0 0] 23)).alloc (.cells #[.slice none 0 0] 24)) 3 #[.int .i64 0]
 have h4:=Blk.new (((w.alloc (.cells #[.slice none 0 0] 23)).alloc (.cells #[.slice none 0 0] 24)).alloc (.cells #[.int .i64 0] 3)) 3 #[.int .i64 0]
 have al:∀(W:World) (o:Obj),Below W.heap.size W (W.alloc o):=fun W o=>(Below.refl _ _).alloc (Nat.le_refl _) _
 have kp:∀ {W W':World} {g:Nat} {t:TypeId} {cs:Array Value},Blk W g t cs→Below W.heap.size W W'→Blk W' g t cs:=fun h hb=>(hb.block _ h.lt).trans h
 simp only[World.size_alloc]at h2 h3 h4
 exact⟨kp (kp (kp h1 (al _ _)) (al _ _)) (al _ _),kp (kp h2 (al _ _)) (al _ _),kp h3 (al _ _),h4⟩
theorem Rs4.two {w:World}{b:Nat}{tv pv:Value}{cd at_:Int}(h:Rs4 w b tv pv cd at_)(cd' at':Int):Rs4 ((w.setCell ⟨b+2,0,none⟩ (.int .i64 cd')).setCell ⟨b+3,0,none⟩ (.int .i64 at')) b tv pv cd' at'∧Gw (fun k=>b≤k∧k≤b+3) w ((w.setCell ⟨b+2,0,none⟩ (.int .i64 cd')).setCell ⟨b+3,0,none⟩ (.int .i64 at')):=by
 refine⟨⟨(h.t.other 0 _ (by omega)).other 0 _ (by omega),(h.p.other 0 _ (by omega)).other 0 _ (by omega),(h.c.set 0 _).other 0 _ (by omega),(h.a.other 0 _ (by omega)).set 0 _⟩,?_⟩
 exact ((Gw.set w (b+2) 0 _).mono (Q:=fun k=>b≤k∧k≤b+3) (fun j _ q=>by omega)).trans (Gw.set _ (b+3) 0 _) (fun j _ q=>by omega)
theorem Rs4.res {w:World}{b:Nat}{tv pv:Value}{cd at_:Int}(h:Rs4 w b tv pv cd at_)(tmps:Array Value)(h2:tmps.getD 2 undef = .pointer (some ⟨b,0,none⟩))(h3:tmps.getD 3 undef = .pointer (some ⟨b+1,0,none⟩))(h4:tmps.getD 4 undef = .pointer (some ⟨b+2,0,none⟩))(h5:tmps.getD 5 undef = .pointer (some ⟨b+3,0,none⟩)):(results Tryz.f6 tmps).run Tryz.prog w = .ok (.tuple #[tv,pv,.int .i64 cd,.int .i64 at_]) w:=by
 have q0:=h.t.cell 0
 have q1:=h.p.cell 0
 have q2:=h.c.cell 0
 have q3:=h.a.cell 0
 simp only[List.getElem?_toArray,List.getElem?_cons_zero]at q0 q1 q2 q3
 have h2':tmps[2]?.getD undef = .pointer (some ⟨b,0,none⟩):=by simpa using h2
 have h3':tmps[3]?.getD undef = .pointer (some ⟨b+1,0,none⟩):=by simpa using h3
 have h4':tmps[4]?.getD undef = .pointer (some ⟨b+2,0,none⟩):=by simpa using h4
 have h5':tmps[5]?.getD undef = .pointer (some ⟨b+3,0,none⟩):=by simpa using h5
 simp[results,Tryz.f6,go_sem,h2',h3',h4',h5',asAddr,q0,q1,q2,q3]
set_option maxHeartbeats 16000000 in
set_option maxRecDepth 1000000 in
theorem implParse_bad (b off cap:Nat)(s:ByteArray)(w:World)(hT:TabQ w)(hc:∀j,j<s.size→w.cell? ⟨b,off+j,none⟩=some (bts s j))(hK:(lexed s).2.1≠0):
 Calls Tryz.prog 6 #[.slice (some ⟨b,off,none⟩) s.size cap] w (PiQ w (([],[]),(((lexed s).2.1:Nat):Int),(((lexed s).2.2:Nat):Int))):=by
 obtain⟨W0,hW0⟩:∃W,(((w.alloc (.cells #[.slice none 0 0] 23)).alloc (.cells #[.slice none 0 0] 24)).alloc (.cells #[.int .i64 0] 3)).alloc (.cells #[.int .i64 0] 3)=W:=⟨_,rfl⟩
 have hB0:Below w.heap.size w W0:=by rw[← hW0];exact ((((Below.refl _ _).alloc (Nat.le_refl _) _).alloc (by simp) _).alloc (by simp;omega) _).alloc (by simp;omega) _
 have HR0:Hid (Rs4 W0 w.heap.size (.slice none 0 0) (.slice none 0 0) 0 0):=by show Rs4 _ _ _ _ _ _;rw[← hW0];exact Rs4.start w
 have HB0:=hide hB0
 obtain⟨m,t1,t2,p1,p2,hlib⟩:=(hT.below hB0).lib
 have HL:=hide (implLex_any b off cap s W0 m t1 t2 p1 p2 hlib (fun j hj=>cell_kept (hc j hj) hB0))
 obtain⟨T,K,D,hLX⟩:∃T K D,lexed s=(T,K,D):=⟨_,_,_,rfl⟩
 rw[hLX]at HL hK ⊢
 simp only at hK ⊢
 have t0:((K:Int) != 0)=true:=by rw[bne_iff_ne];omega
 have mixed:Tryz.prog.follows Departure.mixedOrders=true:=by kernel_rfl
 clear hlib hc hLX hT hB0
 go_enter_defers Tryz.func6,Tryz.ntmps6
 go_wp2_with fail
 refine HL.out.mono ?_
 rintro r V ⟨v',rfl,ho,hb⟩
 obtain⟨va,vc,rfl⟩:=own_sl ho
 have hR:=HR0.out.kept hb
 have HBV:=hide (HB0.out.trans (hb.mono HB0.out.size))
 have HRV:=hide hR
 have hRs:=(hR.set (.slice none 0 0) (.slice none 0 0) (K:Nat) (D:Nat))
 have q0:=hR.t.cell 0
 have q1:=hR.p.cell 0
 have q2:=hR.c.cell 0
 have q3:=hR.a.cell 0
 have f0:=hR.t.frozen 0
 have f1:=hR.p.frozen 0
 have f2:=hR.c.frozen 0
 have f3:=hR.a.frozen 0
 simp only[List.getElem?_toArray,List.getElem?_cons_zero]at q0 q1 q2 q3
 obtain⟨b1,hb1⟩:∃x,w.heap.size+1=x:=⟨_,rfl⟩
 obtain⟨b2,hb2⟩:∃x,w.heap.size+2=x:=⟨_,rfl⟩
 obtain⟨b3,hb3⟩:∃x,w.heap.size+3=x:=⟨_,rfl⟩
 have hb2':b1+1=b2:=by omega
 have hb3':b2+1=b3:=by omega
 rw[hb1]at q1 f1
 rw[hb2]at q2 f2
 rw[hb3]at q3 f3
 simp only[hb1,hb2',hb3']
 obtain⟨b0,hb0⟩:∃x,w.heap.size=x:=⟨_,rfl⟩
 rw[hb0]at q0 f0
 simp only[hb0]
 have n10:¬b1=b0:=by omega
 have n20:¬b2=b0:=by omega
 have n21:¬b2=b1:=by omega
 have n30:¬b3=b0:=by omega
 have n31:¬b3=b1:=by omega
 have n32:¬b3=b2:=by omega
 have n01:¬b0=b1:=by omega
 have n02:¬b0=b2:=by omega
 have n12:¬b1=b2:=by omega
 have n03:¬b0=b3:=by omega
 have n13:¬b1=b3:=by omega
 have n23:¬b2=b3:=by omega
 have HBB:Hid (w.heap.size=b0∧w.heap.size+1=b1∧w.heap.size+2=b2∧w.heap.size+3=b3):=⟨hb0,hb1,hb2,hb3⟩
 clear hb hR hRs ho HL HR0 HB0 hb0 hb1 hb2 hb3 hb2' hb3'
 go_wp2_with fail
 go_region_o
 clear n10 n20 n21 n30 n31 n32 n01 n02 n12 n03 n13 n23 q0 q1 q2 q3 f0 f1 f2 f3
 obtain⟨rfl,rfl,rfl,rfl⟩:=HBB.out
 have h1:=HRV.out.two (K:Nat) (D:Nat)
 have h2:=h1.1.set (.slice none 0 0) (.slice none 0 0) (K:Nat) (D:Nat)
 unfold set4r at h2
 have hbd:Below _ _ _:=(Below.refl (set4r ((V.setCell ⟨w.heap.size+2,0,none⟩ (.int .i64 ((K:Nat):Int))).setCell ⟨w.heap.size+3,0,none⟩ (.int .i64 ((D:Nat):Int))) w.heap.size (.slice none 0 0) (.slice none 0 0) (K:Nat) (D:Nat)).heap.size (set4r ((V.setCell ⟨w.heap.size+2,0,none⟩ (.int .i64 ((K:Nat):Int))).setCell ⟨w.heap.size+3,0,none⟩ (.int .i64 ((D:Nat):Int))) w.heap.size (.slice none 0 0) (.slice none 0 0) (K:Nat) (D:Nat))).drew
 unfold set4r at hbd
 have HRE:=hide (h2.1.kept hbd)
 have HBE:=hide ((((h1.2.trans h2.2 (fun _ _ q=>q)).below HBV.out (HBV.out.size) (fun k hk q=>by omega))).trans (hbd.mono (by have:=HBV.out.size;simp;omega)))
 obtain⟨VE,hVE⟩:∃W,((((((V.setCell ⟨w.heap.size+2,0,none⟩ (.int .i64 ((K:Nat):Int))).setCell ⟨w.heap.size+3,0,none⟩ (.int .i64 ((D:Nat):Int))).setCell ⟨w.heap.size,0,none⟩ (.slice none 0 0)).setCell ⟨w.heap.size+1,0,none⟩ (.slice none 0 0)).setCell ⟨w.heap.size+2,0,none⟩ (.int .i64 ((K:Nat):Int))).setCell ⟨w.heap.size+3,0,none⟩ (.int .i64 ((D:Nat):Int))).drew=W:=⟨_,rfl⟩
 rw[hVE]at HRE HBE ⊢
 clear h1 h2 hbd hVE HRV HBV
 go_wp2
 exact⟨_,HRE.out.res _ rfl rfl rfl rfl,piq_nil HBE.out⟩
end Go.Proofs.YtbiakdjpeblclaaGreatDoor
namespace Go.Proofs.YtbiakdjpeblclaaGreatDoor
theorem bLoop_cov {n:Nat}{st:Nat→Nat→Nat→Bool}{g:Nat→Nat}{ok:Nat→Bool}{p i0:Nat}(hg:∀i,g i≠0→∀j,i≤j→j<g i→ok j=true):∀c k e,(∀j,i0≤j→j<e→ok j=true)→bLoop n st g p c k e≠0→∀j,i0≤j→j<bLoop n st g p c k e→ok j=true
 |0,k,e,h,_=>by rw[bLoop];exact h
 |c+1,k,e,h,hn=>by
  rw[bLoop]at hn ⊢
  by_cases c1:e=n
  ·rw[if_pos c1]at hn;exact absurd rfl hn
  rw[if_neg c1]at hn ⊢
  by_cases c2:st p k e=true
  ·rw[if_pos c2]at hn ⊢
   by_cases c3:g e=0
   ·rw[if_pos c3]at hn;exact absurd rfl hn
   rw[if_neg c3]at hn ⊢
   refine bLoop_cov hg c (k+1) (g e) (fun j h1 h2=>?_) hn
   by_cases c4:j<e
   ·exact h j h1 c4
   ·exact hg e c3 j (by omega) h2
  ·rw[if_neg c2]at hn;exact absurd rfl hn
theorem bE_cov {n:Nat}{cnt:Nat→Int}{ok:Nat→Bool}{st:Nat→Nat→Nat→Bool}:∀f i,bE n cnt ok st f i≠0→∀j,i≤j→j<bE n cnt ok st f i→ok j=true
 |0,i,h=>absurd rfl h
 |f+1,i,h=>by
  rw[bE]at h ⊢
  by_cases c:ok i=true
  ·rw[if_pos c]at h ⊢
   refine bLoop_cov (bE_cov f) _ _ _ (fun j h1 h2=>?_) h
   obtain rfl:j=i:=by omega
   exact c
  ·rw[if_neg c]at h;exact absurd rfl h
theorem vT_all {L:List Nd}(h:vT L=true):∀d∈L,(vFd d&&vCnt d.kind d.count)=true:=by
 have h0:0<L.length:=by
  rcases Nat.eq_zero_or_pos L.length with g|g
  ·rw[vT_none g]at h;cases h
  ·exact g
 have h1:L.length≤4000:=by
  by_cases g:L.length≤4000
  ·exact g
  ·rw[vT_long g]at h;cases h
 have h2:(L.getD 0 .zero).kind=0:=by
  by_cases g:(L.getD 0 .zero).kind=0
  ·exact g
  ·rw[vT_kind g]at h;cases h
 rw[vT_end h0 h1 h2,beq_iff_eq]at h
 intro d hd
 obtain⟨j,hj,rfl⟩:=List.getElem_of_mem hd
 have:=bE_cov (n:=L.length) (cnt:=cn L) (ok:=okN L) (st:=stN L) 60 0 (by omega) j (Nat.zero_le _) (by omega)
 unfold okN at this
 rw[List.getD_eq_getElem?_getD,List.getElem?_eq_getElem hj]at this
 exact this
def Bn (d:Nd):Prop:=(∃n∈d.names,30<n.size)∨60<d.text.size∨10<d.types.length∨(d.kind=4∧10<d.count)
theorem Bn.not {d:Nd}(h:Bn d):(vFd d&&vCnt d.kind d.count)=false:=by
 cases hv:(vFd d&&vCnt d.kind d.count) with
 |false=>rfl
 |true=>
  exfalso
  rw[Bool.and_eq_true]at hv
  obtain⟨hf,hc⟩:=hv
  unfold vFd at hf
  rw[Bool.and_eq_true,Bool.and_eq_true,Bool.and_eq_true,Bool.and_eq_true]at hf
  obtain⟨-, -,ht,hy,hn⟩:=hf
  rcases h with⟨n,h1,h2⟩|h|h|h
  ·unfold vNs at hn
   rw[Bool.and_eq_true,List.all_eq_true]at hn
   have:=hn.2 n h1
   unfold vNm at this
   rw[Bool.and_eq_true]at this
   have:=of_decide_eq_true this.1
   omega
  ·unfold vTx at ht
   split at ht
   ·rw[Bool.and_eq_true]at ht
    have:=of_decide_eq_true ht.1
    omega
   ·rw[beq_iff_eq]at ht;omega
  ·unfold vTy at hy
   split at hy
   ·rw[Bool.and_eq_true]at hy
    have:=of_decide_eq_true hy.1
    omega
   ·rw[beq_iff_eq]at hy;omega
  ·rw[h.1]at hc
   simp[vCnt]at hc
   omega
theorem vT_bn {L:List Nd}(h:∃d∈L,Bn d):vT L=false:=by
 obtain⟨d,h1,h2⟩:=h
 cases hv:vT L with
 |false=>rfl
 |true=>
  have:=vT_all hv d h1
  rw[h2.not]at this
  cases this
def Lgs (p q:Ps)(t:List Nd):Prop:=q.bad<0→q.long=true→p.long=true∨∃d∈t,Bn d
def fl (ks:List Pt):List Nd:=(ks.map Pt.t).flatten
theorem Lgs.refl (p:Ps)(t:List Nd):Lgs p p t:=fun _ h=>.inl h
theorem Lgs.mono {p q:Ps}{t u:List Nd}(h:Lgs p q t)(hs:∀d∈t,d∈u):Lgs p q u:=fun a b=>(h a b).imp id fun ⟨d,x,y⟩=>⟨d,hs d x,y⟩
theorem Lgs.trans {e:PsE}{p q r:Ps}{t u:List Nd}(h:Lgs p q t)(k:Lgs q r u)(m:Mv e q r):Lgs p r (t++u):=fun a b=>by
 rcases k a b with c|⟨d,x,y⟩
 ·have hq:q.bad<0:=by
   by_cases g:0≤q.bad
   ·have:=(m.bad g).1;omega
   ·omega
  rcases h hq c with c|⟨d,x,y⟩
  ·exact .inl c
  ·exact .inr ⟨d,List.mem_append_left _ x,y⟩
 ·exact .inr ⟨d,List.mem_append_right _ x,y⟩
theorem wrong_bad (e:PsE)(p:Ps):0≤(e.wrong p).bad:=by
 unfold PsE.wrong
 by_cases c:p.bad<0
 ·rw[if_pos c];show (0:Int)≤(e.place p:Nat);omega
 ·rw[if_neg c];omega
theorem lgs_on (p:Ps)(t:List Nd):Lgs p p.on t:=fun _ h=>.inl h
theorem lgs_want (e:PsE)(p:Ps)(w:ByteArray)(t:List Nd):Lgs p (e.want p w) t:=by
 unfold PsE.want
 by_cases c:e.is p w=true
 ·rw[if_pos c];exact lgs_on p t
 ·rw[if_neg c];intro h;exact absurd (show (e.wrong p).bad<0 from h) (by have:=wrong_bad e p;omega)
theorem lgs_ident (e:PsE)(p:Ps){t:List Nd}(ht:∃d∈t,(e.ident p).1∈d.names):Lgs p (e.ident p).2 t:=by
 obtain⟨d,h1,h2⟩:=ht
 unfold PsE.ident at h2 ⊢
 by_cases c:e.kind p=1
 ·rw[if_pos c]at h2 ⊢
  intro _ h
  rw[Bool.or_eq_true]at h
  rcases h with h|h
  ·exact .inl h
  ·exact .inr ⟨d,h1,.inl ⟨_,h2,of_decide_eq_true h⟩⟩
 ·rw[if_neg c];intro h;exact absurd (show (e.wrong p).bad<0 from h) (by have:=wrong_bad e p;omega)
theorem ptN_t (n:Nd)(pl:Nat)(ks:List Pt):(ptN n pl ks).t = { n with count:=(ks.length:Int) }::fl ks:=rfl
theorem fl_mem {ks:List Pt}{x:Pt}(hx:x∈ks){d:Nd}(hd:d∈x.t):d∈fl ks:=by
 unfold fl
 rw[List.mem_flatten]
 exact⟨x.t,List.mem_map_of_mem hx,hd⟩
theorem pt_mem {n:Nd}{pl:Nat}{ks:List Pt}{x:Pt}(hx:x∈ks){d:Nd}(hd:d∈x.t):d∈(ptN n pl ks).t:=by rw[ptN_t];exact List.mem_cons_of_mem _ (fl_mem hx hd)
theorem fl_sub {ks us:List Pt}(h:∀x∈ks,x∈us){d:Nd}(hd:d∈fl ks):d∈fl us:=by
 unfold fl at hd
 rw[List.mem_flatten]at hd
 obtain⟨t,h1,h2⟩:=hd
 rw[List.mem_map]at h1
 obtain⟨x,h3,rfl⟩:=h1
 exact fl_mem (h x h3) h2
theorem Lgs.then {e:PsE}{p q r:Ps}{t:List Nd}(h:Lgs p q t)(k:Lgs q r t)(m:Mv e q r):Lgs p r t:=(h.trans k m).mono fun d hd=>by
 rcases List.mem_append.mp hd with h|h<;>exact h
theorem lgs_expr (e:PsE):∀f,(∀l p,Lgs p (rE e f l p).2 (rE e f l p).1.t)∧(∀l x p,Lgs p (rEl e f l x p).2 (rEl e f l x p).1.t∧∀d∈x.t,d∈(rEl e f l x p).1.t)∧(∀p,Lgs p (rU e f p).2 (rU e f p).1.t)
 |0=>⟨fun _ p=>by rw[rE];exact Lgs.refl _ _,fun _ _ p=>by rw[rEl];exact⟨Lgs.refl _ _,fun _ h=>h⟩,fun p=>by rw[rU];exact Lgs.refl _ _⟩
 |f+1=>by
  obtain⟨i1,i2,i3⟩:=lgs_expr e f
  obtain⟨m1,m2,m3⟩:=mv_expr e f
  refine⟨fun l p=>?_,fun l x p=>?_,fun p=>?_⟩
  ·rw[rE]
   exact ((i3 p).mono (i2 l _ _).2).then (i2 l _ _).1 (m2 _ _ _)
  ·rw[rEl]
   by_cases c:e.kind p=5
   ·rw[if_pos c]
    by_cases d:opAt e p 14<0∨sgB.getD (opAt e p 14).toNat 0<l
    ·rw[if_pos d];exact⟨Lgs.refl _ _,fun _ h=>h⟩
    ·rw[if_neg d]
     have h2:=i2 l (ptN { ndK 20 with n:=opAt e p 14 } (e.place p) [x,(rE e f (sgB.getD (opAt e p 14).toNat 0+1) p.on).1]) (rE e f (sgB.getD (opAt e p 14).toNat 0+1) p.on).2
     refine⟨(((lgs_on p _).then (i1 _ _) (m1 _ _)).mono fun d hd=>h2.2 d (pt_mem (by simp) hd)).then h2.1 (m2 _ _ _),fun d hd=>h2.2 d (pt_mem (by simp) hd)⟩
   ·rw[if_neg c];exact⟨Lgs.refl _ _,fun _ h=>h⟩
  ·rw[rU]
   repeat' split
   ·exact ((lgs_on p _).then (i3 _) (m3 _)).mono fun d hd=>pt_mem (by simp) hd
   ·exact ((lgs_on p _).then (i3 _) (m3 _)).mono fun d hd=>pt_mem (by simp) hd
   ·exact ((lgs_on p _).then (i1 _ _) (m1 _ _)).then (lgs_want _ _ _ _) (mv_want _ _ _).1
   ·exact lgs_on p _
   ·exact lgs_on p _
   ·exact lgs_on p _
   ·intro _ h
    rw[Bool.or_eq_true]at h
    rcases h with h|h
    ·exact .inl h
    ·refine .inr ⟨_,by rw[ptN_t];exact List.mem_cons_self,.inr (.inl ?_)⟩
     show 60<(byt _).size
     rw[byt_size]
     exact of_decide_eq_true h
   ·exact lgs_ident e p ⟨_,by rw[ptN_t];exact List.mem_cons_self,List.mem_singleton.mpr rfl⟩
theorem lgs_cell (e:PsE)(f:Nat)(p:Ps):Lgs p (rCell e f p).2 (fl (rCell e f p).1):=by
 have h:=(lgs_expr e f).1
 have m:=(mv_expr e f).1
 show Lgs p (rE e f 1 (e.want (rE e f 1 p).2 (⟨#[44]⟩:ByteArray))).2 (fl [(rE e f 1 p).1,(rE e f 1 (e.want (rE e f 1 p).2 (⟨#[44]⟩:ByteArray))).1])
 exact ((((h 1 p).mono fun d hd=>fl_mem (by simp) hd).then (lgs_want e _ _ _) (mv_want e _ _).1)).then ((h 1 _).mono fun d hd=>fl_mem (by simp) hd) (m _ _)
theorem lgs_area (e:PsE)(f:Nat)(p:Ps):Lgs p (rArea e f p).2 (fl (rArea e f p).1):=by
 unfold rArea
 simp only
 by_cases c:e.is (rCell e f p).2 ⟨#[116,111]⟩=true
 ·rw[if_pos c]
  exact ((((lgs_cell e f p).mono fun d hd=>fl_sub (fun x hx=>List.mem_append_left _ hx) hd).then (lgs_on _ _) (mv_on (is_kind c)).1)).then ((lgs_cell e f _).mono fun d hd=>fl_sub (fun x hx=>List.mem_append_right _ hx) hd) (mv_cell e f _)
 ·rw[if_neg c];exact lgs_cell e f p
theorem lgs_way (e:PsE)(p:Ps)(t:List Nd):Lgs p (rWay e p).2 t:=by
 unfold rWay
 repeat' split
 ·exact lgs_on p t
 ·exact lgs_on p t
 ·exact lgs_on p t
 ·exact lgs_on p t
 ·intro h;exact absurd (show (e.wrong p).bad<0 from h) (by have:=wrong_bad e p;omega)
theorem lgs_args (e:PsE)(f:Nat):∀c ks p,Lgs p (rArgs e f c ks p).2 (fl (rArgs e f c ks p).1)∧∀x∈ks,x∈(rArgs e f c ks p).1
 |0,_,p=>⟨Lgs.refl _ _,fun _ h=>h⟩
 |c+1,ks,p=>by
  rw[rArgs]
  split
  ·simp only
   have h:=(lgs_expr e f).1 1 p
   split
   ·rename_i g
    have ih:=lgs_args e f c (ks++[(rE e f 1 p).1]) (rE e f 1 p).2.on
    exact⟨((h.mono fun d hd=>fl_mem (ih.2 _ (by simp)) hd).then (lgs_on _ _) (mv_on (is_kind g)).1).then ih.1 (mv_args e f c _ _),fun x hx=>ih.2 x (List.mem_append_left _ hx)⟩
   ·exact⟨h.mono fun d hd=>fl_mem (by simp) hd,fun x hx=>List.mem_append_left _ hx⟩
  ·exact⟨Lgs.refl _ _,fun _ h=>h⟩
end Go.Proofs.YtbiakdjpeblclaaGreatDoor

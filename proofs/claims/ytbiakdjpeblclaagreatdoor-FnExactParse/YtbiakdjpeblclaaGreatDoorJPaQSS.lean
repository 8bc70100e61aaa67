/-
  The program's own reader of trees, on: restOfStatement, statement.
-/
import Derived.Test.YtbiakdjpeblclaaGreatDoorJPaQSD
namespace Go.Proofs.YtbiakdjpeblclaaGreatDoor
open Go.RowKit
theorem qbl {c:PsC}{e:PsE}{f m:Nat}(hE:EOk e)(HS:QSt c e f (m+1)){p:Ps}(hl:lft e p≤m+1):QBl c e (rBlock e e.T.length (rS e f (m+1))) p.at_:=fun _ _ h hp hn hq=>qblock hE HS h hp hn (by unfold lft at hl ⊢;omega)
set_option maxHeartbeats 2000000 in
set_option maxRecDepth 1000000 in
theorem rest_let {c:PsC}{e:PsE}{w:World}{pl:Nat}{R:Pt × Ps}(h:Calls Tryz.prog 136 #[.pointer (some ⟨c.P,0,none⟩),.int .i64 (pl:Nat)] w (RQ c e w R.2 (KP w R.1))):
 Calls Tryz.prog 120 #[.pointer (some ⟨c.P,0,none⟩),.int .i64 ((3:Nat):Int),.int .i64 (pl:Nat)] w (RQ c e w R.2 (KP w R.1)):=by
 have HC:=hide h
 clear h
 go_enter Tryz.func120,Tryz.ntmps120
 go_wp2_with fail
 refine HC.out.mono ?_
 rintro r w1 ⟨hg,⟨hb1,hq,v,rfl,⟨⟨t1,a1,rfl⟩,hpm⟩⟩|⟨hb1,rfl⟩⟩
 ·have HP:=hide hpm
  have HG:=hide hg
  have HQ:=hide hq
  clear hpm hg hq HC
  go_wp2
  go_ret
  exact RQ.ok hb1 HG.out HQ.out ⟨⟨_,_,rfl⟩,HP.out⟩
 ·exact⟨rfl,RQ.fault hb1 (Mv.refl e _) hg⟩
set_option maxHeartbeats 2000000 in
set_option maxRecDepth 1000000 in
theorem rest_call {c:PsC}{e:PsE}{w:World}{pl:Nat}{R:Pt × Ps}(h:Calls Tryz.prog 137 #[.pointer (some ⟨c.P,0,none⟩),.int .i64 (pl:Nat)] w (RQ c e w R.2 (KP w R.1))):
 Calls Tryz.prog 120 #[.pointer (some ⟨c.P,0,none⟩),.int .i64 ((4:Nat):Int),.int .i64 (pl:Nat)] w (RQ c e w R.2 (KP w R.1)):=by
 have HC:=hide h
 clear h
 go_enter Tryz.func120,Tryz.ntmps120
 go_wp2_with fail
 refine HC.out.mono ?_
 rintro r w1 ⟨hg,⟨hb1,hq,v,rfl,⟨⟨t1,a1,rfl⟩,hpm⟩⟩|⟨hb1,rfl⟩⟩
 ·have HP:=hide hpm
  have HG:=hide hg
  have HQ:=hide hq
  clear hpm hg hq HC
  go_wp2
  go_ret
  exact RQ.ok hb1 HG.out HQ.out ⟨⟨_,_,rfl⟩,HP.out⟩
 ·exact⟨rfl,RQ.fault hb1 (Mv.refl e _) hg⟩
set_option maxHeartbeats 2000000 in
set_option maxRecDepth 1000000 in
theorem rest_for {c:PsC}{e:PsE}{w:World}{pl:Nat}{R:Pt × Ps}(h:Calls Tryz.prog 138 #[.pointer (some ⟨c.P,0,none⟩),.int .i64 (pl:Nat)] w (RQ c e w R.2 (KP w R.1))):
 Calls Tryz.prog 120 #[.pointer (some ⟨c.P,0,none⟩),.int .i64 ((5:Nat):Int),.int .i64 (pl:Nat)] w (RQ c e w R.2 (KP w R.1)):=by
 have HC:=hide h
 clear h
 go_enter Tryz.func120,Tryz.ntmps120
 go_wp2_with fail
 refine HC.out.mono ?_
 rintro r w1 ⟨hg,⟨hb1,hq,v,rfl,⟨⟨t1,a1,rfl⟩,hpm⟩⟩|⟨hb1,rfl⟩⟩
 ·have HP:=hide hpm
  have HG:=hide hg
  have HQ:=hide hq
  clear hpm hg hq HC
  go_wp2
  go_ret
  exact RQ.ok hb1 HG.out HQ.out ⟨⟨_,_,rfl⟩,HP.out⟩
 ·exact⟨rfl,RQ.fault hb1 (Mv.refl e _) hg⟩
set_option maxHeartbeats 2000000 in
set_option maxRecDepth 1000000 in
theorem rest_if {c:PsC}{e:PsE}{w:World}{pl:Nat}{R:Pt × Ps}(h:Calls Tryz.prog 139 #[.pointer (some ⟨c.P,0,none⟩),.int .i64 (pl:Nat)] w (RQ c e w R.2 (KP w R.1))):
 Calls Tryz.prog 120 #[.pointer (some ⟨c.P,0,none⟩),.int .i64 ((6:Nat):Int),.int .i64 (pl:Nat)] w (RQ c e w R.2 (KP w R.1)):=by
 have HC:=hide h
 clear h
 go_enter Tryz.func120,Tryz.ntmps120
 go_wp2_with fail
 refine HC.out.mono ?_
 rintro r w1 ⟨hg,⟨hb1,hq,v,rfl,⟨⟨t1,a1,rfl⟩,hpm⟩⟩|⟨hb1,rfl⟩⟩
 ·have HP:=hide hpm
  have HG:=hide hg
  have HQ:=hide hq
  clear hpm hg hq HC
  go_wp2
  go_ret
  exact RQ.ok hb1 HG.out HQ.out ⟨⟨_,_,rfl⟩,HP.out⟩
 ·exact⟨rfl,RQ.fault hb1 (Mv.refl e _) hg⟩
set_option maxHeartbeats 2000000 in
set_option maxRecDepth 1000000 in
theorem rest_decl {c:PsC}{e:PsE}{w:World}{k pl:Nat}{R:Pt × Ps}(hk:7≤k)(h:Calls Tryz.prog 140 #[.pointer (some ⟨c.P,0,none⟩),.int .i64 (k:Nat),.int .i64 (pl:Nat)] w (RQ c e w R.2 (KP w R.1))):
 Calls Tryz.prog 120 #[.pointer (some ⟨c.P,0,none⟩),.int .i64 (k:Nat),.int .i64 (pl:Nat)] w (RQ c e w R.2 (KP w R.1)):=by
 have HC:=hide h
 clear h
 have e3:((k:Int)==3)=false:=by rw[beq_eq_false_iff_ne];omega
 have e4:((k:Int)==4)=false:=by rw[beq_eq_false_iff_ne];omega
 have e5:((k:Int)==5)=false:=by rw[beq_eq_false_iff_ne];omega
 have e6:((k:Int)==6)=false:=by rw[beq_eq_false_iff_ne];omega
 clear hk
 go_enter Tryz.func120,Tryz.ntmps120
 go_wp2_with fail
 refine HC.out.mono ?_
 rintro r w1 ⟨hg,⟨hb1,hq,v,rfl,⟨⟨t1,a1,rfl⟩,hpm⟩⟩|⟨hb1,rfl⟩⟩
 ·have HP:=hide hpm
  have HG:=hide hg
  have HQ:=hide hq
  clear hpm hg hq HC
  go_wp2
  go_ret
  exact RQ.ok hb1 HG.out HQ.out ⟨⟨_,_,rfl⟩,HP.out⟩
 ·exact⟨rfl,RQ.fault hb1 (Mv.refl e _) hg⟩
theorem qrest {c:PsC}{e:PsE}{f m k pl:Nat}(hE:EOk e)(HEx:QE c e f)(hf:2≤f)(HS:QSt c e f (m+1))(h3:3≤k)(h15:k≤15){w:World}{p:Ps}(h:QsW w c e p.at_)(hp:p.bad<0)(hn:p.at_≤e.T.length)(hl:lft e p≤m+1)(h1:1≤p.at_):
 Calls Tryz.prog 120 #[.pointer (some ⟨c.P,0,none⟩),.int .i64 (k:Nat),.int .i64 (pl:Nat)] w (RQ c e w (rWd e f (m+1) k pl p).2 (KP w (rWd e f (m+1) k pl p).1)):=by
 have hB:=qbl hE HS hl
 have hM:=mv_block e (mv_stat e f (m+1)) e.T.length
 unfold rWd
 by_cases k3:k=3
 ·subst k3;exact rest_let (qlet hE HEx h hp hn)
 rw[if_neg k3]
 by_cases k4:k=4
 ·subst k4;exact rest_call (qcall hE HEx hf h hp hn h1)
 rw[if_neg k4]
 by_cases k5:k=5
 ·subst k5;exact rest_for (qloop hE HEx hB hM h hp hn (Nat.le_refl _))
 rw[if_neg k5]
 by_cases k6:k=6
 ·subst k6;exact rest_if (qif_all hE HEx hB hM e.T.length w p pl h hp hn (Nat.le_refl _) (by unfold lft;omega))
 rw[if_neg k6]
 exact rest_decl (by omega) (qdecl hE HEx (by omega) h15 h hp hn)
set_option maxHeartbeats 4000000 in
set_option maxRecDepth 1000000 in
theorem qstat {c:PsC}{e:PsE}{f m:Nat}(hE:EOk e)(HEx:QE c e f)(hf:2≤f)(HS:QSt c e f m):QSt c e f (m+1):=fun w p h hp hn hm=>by
 have hPl:=h.blk.lt
 have HPL:=hide (qplace_any h)
 have hpe:e.place ⟨p.at_, -1,false⟩=e.place p:=rfl
 rw[hpe]at HPL
 obtain⟨L0,hL0⟩:∃Z,e.place p=Z:=⟨_,rfl⟩
 rw[hL0]at HPL
 have HNO:Hid ((∀j,j<16→3≤j→e.txt p.at_≠sWd.getD j ⟨#[]⟩)→(rS e f (m+1) p).2.bad=(L0:Nat)):=fun q=>by rw[hE.nost f m hp q,hL0]
 have HYS:Hid (∀k,k<16→3≤k→e.txt p.at_=sWd.getD k ⟨#[]⟩→∀W,QsW W c e (p.at_+1)→Calls Tryz.prog 120 #[.pointer (some ⟨c.P,0,none⟩),.int .i64 (k:Nat),.int .i64 (L0:Nat)] W (RQ c e W (rS e f (m+1) p).2 (KP W (rS e f (m+1) p).1))):=fun k hk h3 ht W hW=>by
  have hlt:=txt_lt hE ht (by have:=sWd_ok k hk h3;intro q;unfold wOk at this;rw[q]at this;cases this)
  obtain⟨m',rfl⟩:∃x,m=x+1:=⟨m - 1,by unfold lft at hm;omega⟩
  rw[hE.rS f (m'+1) hp hk h3 ht,hL0]
  exact qrest hE HEx hf HS h3 (by omega) (p:=p.on) hW hp hlt (by unfold lft at hm ⊢;rw[on_at];omega) (by rw[on_at];omega)
 have HF:=hide (fun W (hW:QsW W c e p.at_)=>qfault_any hW)
 simp only[hpe,hL0]at HF
 have HH:=hide h
 obtain⟨R,hR⟩:∃R,rS e f (m+1) p=R:=⟨_,rfl⟩
 rw[hR]at HNO HYS ⊢
 clear h hpe hL0 hR HS hE HEx hf hm
 go_enter Tryz.func87,Tryz.ntmps87
 go_wp2_with fail
 refine HPL.out.mono ?_
 rintro r w1 ⟨rfl,hb⟩
 have HQ1:Hid (QdQ c e p.at_ w w1):=QdQ.of_below HH.out hb
 clear hb HPL HH
 go_wp2_with fail
 go_loopw [4] (fun iv wr=>∃k:Nat,3≤k∧k≤16∧iv = .int .i64 (k:Nat)∧(∀j,j<k→3≤j→e.txt p.at_≠sWd.getD j ⟨#[]⟩)∧QdQ c e p.at_ w wr) (fun iv _=>16 - (intOf iv).toNat)
 case atStart=>exact⟨3,by omega,by omega,rfl,fun j hj h3=>absurd hj (by omega),HQ1.out⟩
 case round=>
  obtain⟨k,h3,hk,rfl,hno,hq⟩:=hrel
  rename World=>V
  by_cases hlt:k<16
  ·have hlti:(k:Int)≤15:=by omega
   have hki:(k:Int)<16:=by omega
   have hcell:=hq.1.env.tab.stw k hlt
   have HNOK:=hide hno
   have HQ:=hide hq
   by_cases hs:e.txt p.at_=sWd.getD k ⟨#[]⟩
   ·have HTK:=hide (tk_yes (c:=c) _ hn hs V hq.1)
    have HC:=hide (HYS.out k hlt h3 hs)
    obtain⟨S,hS⟩:∃S,sWd.getD k ⟨#[]⟩=S:=⟨_,rfl⟩
    rw[hS]at hcell HTK
    clear hS hq hno hs HYS HNO HF HQ1
    go_wp2_with fail
    refine HTK.out.mono ?_
    rintro r V1 ⟨rfl,hqq⟩
    have HQ2:=hide (HQ.out.trans hqq)
    clear hqq HTK HQ hcell
    go_wp2_with fail
    refine (HC.out V1 HQ2.out.1).mono ?_
    rintro r V2 ⟨hg,⟨hb1,hq,v,rfl,⟨⟨t1,a1,rfl⟩,hpm⟩⟩|⟨hb1,rfl⟩⟩
    ·have HP:=hide (hpm.low HQ2.out.2.size)
     have HG:=hide (HQ2.out.2.tr hg)
     have HQ:=hide hq
     clear hpm hg hq HC
     go_wp2
     go_ret
     exact RQ.ok hb1 HG.out HQ.out ⟨⟨_,_,rfl⟩,HP.out⟩
    ·exact⟨rfl,RQ.fault hb1 (Mv.refl e _) (HQ2.out.2.tr hg)⟩
   ·have HTK:=hide (tk_no (c:=c) _ hn hs V hq.1)
    have HS:=hide hs
    obtain⟨S,hS⟩:∃S,sWd.getD k ⟨#[]⟩=S:=⟨_,rfl⟩
    rw[hS]at hcell HTK
    clear hS hq hno hs HYS HNO HF HQ1
    go_wp2_with fail
    refine HTK.out.mono ?_
    rintro r V1 ⟨rfl,hqq⟩
    have HQ2:=hide (HQ.out.trans hqq)
    clear hqq HTK HQ hcell
    go_wp2
    go_roundw
    case rel=>exact⟨k+1,by omega,by omega,by go_num,fun j hj h3j=>(by
     by_cases q:j=k
     ·rw[q];exact HS.out
     ·exact HNOK.out j (by omega) h3j),HQ2.out⟩
    case measure=>simp[intOf];omega
  ·obtain rfl:k=16:=by omega
   have HFV:=hide (HF.out V hq.1)
   have HR:=hide (HNO.out hno)
   have HG:=hide hq.2
   clear hq hno hk hlt HYS HNO HF HQ1
   go_wp2_with fail
   refine HFV.out.mono ?_
   rintro r V1 ⟨rfl,hb⟩
   have HB:=hide hb
   clear hb HFV
   go_wp2
   exact⟨rfl,HG.out.blw HB.out,.inr ⟨by rw[HR.out];omega,by rw[HR.out];rfl⟩⟩
theorem qst_all {c:PsC}{e:PsE}{f:Nat}(hE:EOk e)(hf:2*e.T.length+3≤f):∀m,QSt c e f m
 |0=>fun _ _ _ _ _ hm=>absurd hm (by omega)
 |m+1=>qstat hE (qe_all hE hf) (by omega) (qst_all hE hf m)
def tyL : List Value:=[.string (⟨#[105,110,116]⟩:ByteArray),.string (⟨#[116,101,120,116]⟩:ByteArray)]
def tyN : List ByteArray:=[(⟨#[105,110,116]⟩:ByteArray),(⟨#[116,101,120,116]⟩:ByteArray)]
theorem TabQ.tyR {w:World}(h:TabQ w):w.rangeAt 2 0 tyL:=by
 intro j v hj
 have hlt:j<2:=(List.getElem?_eq_some_iff.1 hj).1
 rw[Nat.zero_add]
 have q:j=0∨j=1:=by omega
 rcases q with rfl|rfl<;>injection hj with hj<;>rw[← hj]
 ·exact h.tyw.1
 ·exact h.tyw.2
theorem ty_idx (k:Nat)(hk:k<2)(W:World):(Instr.index 184 (.agg tyL.toArray) (.int .i64 (k:Nat))).run Tryz.prog W = .ok (.string (tyN.getD k ⟨#[]⟩)) W:=
 match k,hk with
 |0,_=>by kernel_rfl
 |1,_=>by kernel_rfl
theorem rPty_at {e:PsE}(hE:EOk e){p:Ps}(hp:p.bad<0){k:Nat}(hk:k<2)(hno:∀j,j<k→e.txt p.at_≠tyN.getD j ⟨#[]⟩)(ht:e.txt p.at_=tyN.getD k ⟨#[]⟩):rPty e p=((k:Int),p.on):=by
 have hi:=hE.is hp (w:=(⟨#[105,110,116]⟩:ByteArray)) (by decide +kernel)
 unfold rPty
 rw[hi]
 have q:k=0∨k=1:=by omega
 rcases q with rfl|rfl
 ·have h0:e.txt p.at_=(⟨#[105,110,116]⟩:ByteArray):=ht
  rw[decide_eq_true h0,if_pos rfl];rfl
 ·have h0:e.txt p.at_≠(⟨#[105,110,116]⟩:ByteArray):=hno 0 (by omega)
  rw[decide_eq_false h0,if_neg Bool.false_ne_true,want_yes (by rw[hE.is hp (by decide +kernel)];exact decide_eq_true ht)];rfl
theorem rPty_no {e:PsE}(hE:EOk e){p:Ps}(hp:p.bad<0)(hno:∀j,j<2→e.txt p.at_≠tyN.getD j ⟨#[]⟩):(rPty e p).2.bad=(e.place p:Nat):=by
 have hi:=hE.is hp (w:=(⟨#[105,110,116]⟩:ByteArray)) (by decide +kernel)
 unfold rPty
 have h0:e.txt p.at_≠(⟨#[105,110,116]⟩:ByteArray):=hno 0 (by omega)
 rw[hi,decide_eq_false h0,if_neg Bool.false_ne_true]
 exact want_no (by rw[hE.is hp (by decide +kernel)];exact decide_eq_false (hno 1 (by omega))) hp
def KPr (w:World)(x:Int × ByteArray)(w':World)(v:Value):Prop:=∃u,v = .agg #[.int .i64 x.1,u]∧BGf w' (fun g=>w.heap.size≤g) u x.2∧x.2.size≤5000
set_option maxHeartbeats 2000000 in
set_option maxRecDepth 1000000 in
theorem qparam {c:PsC}{e:PsE}(hE:EOk e){w:World}{p:Ps}(h:QsW w c e p.at_)(hp:p.bad<0)(hn:p.at_≤e.T.length):
 Calls Tryz.prog 118 #[.pointer (some ⟨c.P,0,none⟩)] w (RQ c e w (rPar e p).2 (KPr w (rPar e p).1)):=by
 obtain⟨W0,hW0⟩:∃W,w.alloc (.cells #[.int .i64 0,.slice none 0 0] 174)=W:=⟨_,rfl⟩
 have hA:Below w.heap.size w W0:=by rw[← hW0];exact (Below.refl _ _).alloc (Nat.le_refl _) _
 have hB0:Blk W0 w.heap.size 174 #[.int .i64 0,.slice none 0 0]:=by rw[← hW0];exact Blk.new _ _ _
 have HBK:=hide hB0
 have HQ0:Hid (QdQ c e p.at_ w W0):=QdQ.of_below h hA
 have HRG:=hide (h.below hA).env.tab.tyR
 have hPl:=h.blk.lt
 have HIX:=hide ty_idx
 obtain⟨OA,hOA⟩:∃OA,Value.agg tyL.toArray=OA:=⟨_,rfl⟩
 rw[hOA]at HIX
 have HOA:=hide hOA
 have HF:=hide (fun W (hW:QsW W c e p.at_)=>qfault_any hW)
 clear h hOA hA hB0
 go_enter Tryz.func118,Tryz.ntmps118
 go_wp2_with (refine wpList_load_mid rfl 184 (.global 2) rfl 2 0 rfl tyL _ HRG.out Tryz.underlying184 rfl (by kernel_rfl) ?_;rw[HOA.out])
 clear hW0
 go_loopw [6] (fun iv wr=>∃k:Nat,k≤2∧iv = .int .i64 (k:Nat)∧(∀j,j<k→e.txt p.at_≠tyN.getD j ⟨#[]⟩)∧QdQ c e p.at_ w wr∧Blk wr w.heap.size 174 #[.int .i64 0,.slice none 0 0]) (fun iv _=>2 - (intOf iv).toNat)
 case atStart=>exact⟨0,by omega,rfl,fun j hj=>absurd hj (by omega),HQ0.out,HBK.out⟩
 case round=>
  obtain⟨k,hk,rfl,hno,hq,hbk⟩:=hrel
  rename World=>V
  by_cases hlt:k<2
  ·have hlti:(k:Int)<2:=by omega
   have hix:=HIX.out k hlt V
   have HNO:=hide hno
   have HQ:=hide hq
   have HBV:=hide hbk
   by_cases hs:e.txt p.at_=tyN.getD k ⟨#[]⟩
   ·have HTK:=hide (tk_yes (c:=c) _ hn hs V hq.1)
    have HNM:=hide (fun W (hW:QsW W c e (p.at_+1))=>qname (p:=p.on) hW hp)
    have HR:Hid (rPar e p=(((k:Int),(e.ident p.on).1),(e.ident p.on).2)):=by show _=_;unfold rPar;rw[rPty_at hE hp hlt hno hs]
    obtain⟨I,hI⟩:∃I,e.ident p.on=I:=⟨_,rfl⟩
    simp only[hI]at HNM HR
    obtain⟨S,hS⟩:∃S,tyN.getD k ⟨#[]⟩=S:=⟨_,rfl⟩
    rw[hS]at hix HTK
    clear hS hq hno HIX hs hbk HBK HQ0 HF hI HRG
    go_wp2_with fail
    refine HTK.out.mono ?_
    rintro r V1 ⟨rfl,hqq⟩
    have HQ2:=hide (HQ.out.trans hqq)
    have HBV1:=hide (hqq.2.blk HBV.out (by show ¬w.heap.size=c.P;omega))
    clear hqq HTK HQ HBV
    go_wp2_with fail
    refine (HNM.out V1 HQ2.out.1).mono ?_
    rintro r V2 ⟨hg,⟨hb2,hq2,v,rfl,hv,hvs⟩|⟨hb2,rfl⟩⟩
    ·have hB2:=hg.blk HBV1.out (by show ¬w.heap.size=c.P;omega)
     obtain⟨va,vc,rfl⟩:=hv.slc
     have hwl:w.heap.size<V1.heap.size:=HBV1.out.lt
     have b0:=hB2.cell 0
     have b1:=hB2.cell 1
     have f0:=hB2.frozen 0
     have f1:=hB2.frozen 1
     simp only[List.getElem?_toArray,List.getElem?_cons_succ,List.getElem?_cons_zero]at b0 b1
     have gs:Gw (· = w.heap.size) V2 ((V2.setCell ⟨w.heap.size,0,none⟩ (.int .i64 (k:Nat))).setCell ⟨w.heap.size,1,none⟩ (.slice va I.1.size vc)):=(Gw.set V2 _ 0 _).trans (Gw.set _ _ 1 _) (fun _ _ q=>q)
     have HQ3:=hide (hq2.far gs (fun j hj=>by rw[hj];exact hPl))
     have HG3:=hide ((HQ2.out.2.tr hg).trans gs (fun j hj q=>by omega))
     have HV3:=hide ((hv.gw gs (fun j hj q=>by rw[hj]at q;omega)).mono (G':=fun g=>w.heap.size≤g) (fun g q _=>by show w.heap.size≤g;omega))
     have HB2:=hide hB2
     clear hg hq2 hv hB2 gs HNM HQ2 HBV1
     go_wp2
     refine bodyPost_ret (results_one rfl _ _ _ w.heap.size 174 _ (0,0) rfl ((HB2.out.set 0 _).set 1 _) Tryz.underlying174 (by kernel_rfl)) rfl ?_
     rw[HR.out]
     exact RQ.ok hb2 HG3.out HQ3.out ⟨_,rfl,HV3.out,hvs⟩
    ·exact⟨rfl,by rw[HR.out];exact RQ.fault hb2 (Mv.refl e _) (HQ2.out.2.tr hg)⟩
   ·have HTK:=hide (tk_no (c:=c) _ hn hs V hq.1)
    have HS:=hide hs
    obtain⟨S,hS⟩:∃S,tyN.getD k ⟨#[]⟩=S:=⟨_,rfl⟩
    rw[hS]at hix HTK
    clear hS hq hno HIX hs hbk HBK HQ0 HF HRG
    go_wp2_with fail
    refine HTK.out.mono ?_
    rintro r V1 ⟨rfl,hqq⟩
    have HQ2:=hide (HQ.out.trans hqq)
    have HBV1:=hide (hqq.2.blk HBV.out (by show ¬w.heap.size=c.P;omega))
    clear hqq HTK HQ HBV
    go_wp2
    go_roundw
    case rel=>exact⟨k+1,by omega,by go_num,fun j hj=>(by
     by_cases q:j=k
     ·rw[q];exact HS.out
     ·exact HNO.out j (by omega)),HQ2.out,HBV1.out⟩
    case measure=>simp[intOf];omega
  ·obtain rfl:k=2:=by omega
   have HQ:=hide hq
   have hbd:=rPty_no hE hp hno
   have HRQ:Hid (∀W,Below V.heap.size V W→RQ c e w (rPar e p).2 (KPr w (rPar e p).1) (Flt (e.place ⟨p.at_, -1,false⟩:Nat)) W):=fun W hW=>by
    have h1:(rPar e p).2.bad=(rPty e p).2.bad:=((mv_ident e (rPty e p).2).1.bad (by rw[hbd];omega)).1
    exact⟨HQ.out.2.blw hW,.inr ⟨by rw[h1,hbd];omega,by rw[h1,hbd];rfl⟩⟩
   have HFV:=hide (HF.out V hq.1)
   obtain⟨Q,hQ⟩:∃Q,e.place ⟨p.at_, -1,false⟩=Q:=⟨_,rfl⟩
   rw[hQ]at HFV HRQ
   clear hq hno hk hlt hQ HF hbk HBK HQ0 hbd
   go_wp2_with fail
   refine HFV.out.mono ?_
   rintro r V1 ⟨rfl,hb⟩
   have HB:=hide hb
   clear hb HFV
   go_wp2
   exact⟨rfl,HRQ.out _ HB.out⟩
def prc (ks:List (Int × ByteArray))(us:List Value):List Value:=(ks.zip us).flatMap fun x=>[.int .i64 x.1.1,x.2]
theorem prc_app {ks xs:List (Int × ByteArray)}{us ys:List Value}(h:us.length=ks.length):prc (ks++xs) (us++ys)=prc ks us++prc xs ys:=by
 unfold prc
 rw[List.zip_append h.symm,List.flatMap_append]
structure PaO (w:World)(B hi:Nat)(v:Value)(ks:List (Int × ByteArray))(us:List Value):Prop where
 len:us.length=ks.length
 own:w.ownsRow B 174 2 v ks.length (prc ks us)
 el:∃Gs,Dj Gs∧(∀j g,Gs j g→B≤g∧g<hi∧v.ownBlock≠some g)∧∀(j:Nat) (k:Int × ByteArray) (u:Value),ks[j]?=some k→us[j]?=some u→BGf w (Gs j) u k.2∧k.2.size≤5000
def KLr (w:World)(ks:List (Int × ByteArray))(w':World)(v:Value):Prop:=∃us,PaO w' w.heap.size w'.heap.size v ks us
def RdR (c:PsC)(e:PsE)(F:FuncId)(n0:Nat)(st:Ps→(Int × ByteArray) × Ps):Prop:=∀V p,QsW V c e p.at_→p.bad<0→p.at_≤e.T.length→n0≤p.at_→Calls Tryz.prog F #[.pointer (some ⟨c.P,0,none⟩)] V (RQ c e V (st p).2 (KPr V (st p).1))
theorem PaO.nil (w:World)(B hi:Nat):PaO w B hi (.slice none 0 0) [] []:=⟨rfl,⟨rfl,.inl ⟨rfl,rfl⟩⟩,fun _ _=>False,fun _ _ _ _ h=>h.elim,fun _ _ h=>h.elim,fun j k u h _=>(by simp at h)⟩
theorem PaO.gw {P:Nat→Prop}{w w':World}{B hi:Nat}{v:Value}{ks:List (Int × ByteArray)}{us:List Value}(h:PaO w B hi v ks us)(hg:Gw P w w')(hB:∀k,P k→k<B):PaO w' B hi v ks us:=by
 obtain⟨Gs,d1,s1,e1⟩:=h.el
 exact⟨h.len,hg.own h.own (fun k hk q=>by have:=hB k q;have:=(World.ownsRow.lt h.own k hk).1;omega),Gs,d1,s1,fun j k u a b=>⟨(e1 j k u a b).1.gw hg (fun i hi q=>by have:=hB i hi;have:=(s1 _ _ q).1;omega),(e1 j k u a b).2⟩⟩
theorem PaO.rd {V V':World}{B hi:Nat}{v:Value}{ks:List (Int × ByteArray)}{us:List Value}{c:PsC}(h:PaO V B hi v ks us)(hg:Gw (· = c.P) V V')(hP:c.P<B):PaO V' B hi v ks us:=h.gw hg (fun k hk=>by subst hk;exact hP)
theorem PaO.up {w:World}{B hi hi':Nat}{v:Value}{ks:List (Int × ByteArray)}{us:List Value}(h:PaO w B hi v ks us)(hh:hi≤hi'):PaO w B hi' v ks us:=by
 obtain⟨Gs,d1,s1,e1⟩:=h.el
 exact⟨h.len,h.own,Gs,d1,fun j g a=>⟨(s1 j g a).1,Nat.lt_of_lt_of_le (s1 j g a).2.1 hh,(s1 j g a).2.2⟩,e1⟩
theorem PaO.olt {w:World}{B hi:Nat}{v:Value}{ks:List (Int × ByteArray)}{us:List Value}(h:PaO w B hi v ks us):∀g,v.ownBlock=some g→g<w.heap.size:=fun g q=>(World.ownsRow.lt h.own g q).2
theorem BGf.iv {w:World}{a:Nat}{v:Value}{s:ByteArray}(h:BGf w (fun g=>a≤g) v s):BGf w (Iv a w.heap.size) v s:=h.mono (fun _ q hl=>⟨q,hl⟩)
theorem BGf.row {w W w':World}{G:Nat→Prop}{v u:Value}{x:ByteArray}(h:BGf w G u x)(hv:∀g,G g→v.ownBlock≠some g)(hW:Below w.heap.size w W)(hg:W.grownBy w' v.ownBlock):BGf w' G u x:=
 (BGf.gw (P:=fun _=>False) h (Gw.of_below hW) (fun _ q=>q.elim)).gw (Gw.of_grown (P:=fun k=>v.ownBlock=some k) hg (fun _ hk _=>hk)) (fun k hk q=>hv k q hk)
theorem PaO.app {w W w':World}{B hi a top:Nat}{v v' u:Value}{ks:List (Int × ByteArray)}{x:Int × ByteArray}{us:List Value}(h:PaO w B hi v ks us)(hx:BGf w (Iv a top) u x.2)(hs:x.2.size≤5000)(hv:∀g,v.ownBlock=some g→g<a)(k1:hi≤a)(k2:B≤a)(k3:hi≤top)(k4:top≤W.heap.size)(hW:Below w.heap.size w W)(ho:w'.ownsRow B 174 2 v' (ks.length+1) (prc ks us++[.int .i64 x.1,u]))(hg:W.grownBy w' v.ownBlock)(hob:v'.ownBlock=v.ownBlock∨v'.ownBlock=some W.heap.size):PaO w' B top v' (ks++[x]) (us++[u]):=by
 obtain⟨Gs,d1,s1,e1⟩:=h.el
 have n1:∀j g,Gs j g→v'.ownBlock≠some g:=fun j g q z=>by
  rcases hob with r|r
  ·exact (s1 j g q).2.2 (by rw[← r];exact z)
  ·rw[r]at z;injection z with z;have:=s1 j g q;omega
 have n2:∀g,Iv a top g→v.ownBlock≠some g:=fun g q z=>by have:=hv g z;have:=q.1;omega
 have n3:∀g,Iv a top g→v'.ownBlock≠some g:=fun g q z=>by
  rcases hob with r|r
  ·exact n2 g q (by rw[← r];exact z)
  ·rw[r]at z;injection z with z;have:=q.2;omega
 refine⟨by rw[List.length_append,List.length_append,h.len];rfl,by rw[List.length_append,prc_app h.len];exact ho,fun j=>if j<ks.length then Gs j else if j=ks.length then Iv a top else fun _=>False,fun i j g q y z=>?_,fun j g y=>?_,fun j k y hk hu=>?_⟩
 ·simp only at y z
  split at y<;>split at z
  ·exact d1 i j g q y z
  ·split at z
   ·have:=s1 _ _ y;have:=z.1;omega
   ·exact z
  ·split at y
   ·have:=s1 _ _ z;have:=y.1;omega
   ·exact y
  ·split at y<;>split at z
   ·omega
   ·exact z
   ·exact y
   ·exact y
 ·simp only at y
  split at y
  ·have:=s1 _ _ y;exact⟨this.1,by omega,n1 _ _ y⟩
  ·split at y
   ·exact⟨by have:=y.1;omega,y.2,n3 _ y⟩
   ·exact y.elim
 ·by_cases hj:j<ks.length
  ·rw[List.getElem?_append_left hj]at hk
   rw[List.getElem?_append_left (by rw[h.len];exact hj)]at hu
   simp only[if_pos hj]
   exact⟨(e1 j k y hk hu).1.row (fun g q=>(s1 _ g q).2.2) hW hg,(e1 j k y hk hu).2⟩
  ·rw[List.getElem?_append_right (by omega)]at hk
   rw[List.getElem?_append_right (by rw[h.len];omega),h.len]at hu
   cases hjj:j - ks.length with
   |zero=>
    rw[hjj]at hk hu
    injection hk with hk
    injection hu with hu
    simp only[if_neg hj,if_pos (show j=ks.length by omega)]
    rw[← hk,← hu]
    exact⟨hx.row n2 hW hg,hs⟩
   |succ i=>rw[hjj]at hk;simp at hk
theorem Tryz.infoPar : (Tryz.prog.info? 174).map (fun i=>(i.zero,i.size,i.bytes))=some (some (.agg #[.int .i64 0,.slice none 0 0]),2,32):=by kernel_rfl
theorem wp_app2P {P:Program}{ops:Array Oper}{rest:List Oper}{o:Oper}{a:Act}{Q:Exit→Act→World→Prop}{w:World}(hgd:o.guard=none)(s x:Operand)(t e:TypeId)
 (ho:o.op = .call { callee:=.builtin .append,args:=#[s,x],argTypes:=#[t,t] }) (z:Value) (bytes:Nat) (ht:P.underlying t=some (.slice e)) (hinfo:(P.info? e).map (fun i=>(i.zero,i.size,i.bytes))=some (some z,2,bytes)) (hzc:z.cells.size=2) (hby:bytes≤1000)
 (B:Nat) (v:Value) (n:Nat) (xs:List Value) (hs:a.eval s=v) (hown:w.ownsRow B e 2 v n xs)
 (g c:Nat) (u0 u1:Value) (hx:a.eval x = .slice (some ⟨g,0,none⟩) 1 c) (hn0:w.cell? ⟨g,0,none⟩=some u0) (hn1:w.cell? ⟨g,1,none⟩=some u1) (h0:u0.oneCell'=true) (h1:u1.oneCell'=true) (hlen:n≤10000000) (hbase:B≤w.heap.size)
 (h:∀v' w',w'.ownsRow B e 2 v' (n+1) (xs++[u0,u1])→w.grownBy w' v.ownBlock→(v'.ownBlock=v.ownBlock∨v'.ownBlock=some w.heap.size)→wpList P ops Q rest (a.put o.dst v') w'):wpList P ops Q (o::rest) a w:=by
 obtain⟨i0,hi,hz0,hz1,hz2⟩:=info_partsV hinfo
 refine wpList_append_own_at _ hgd s x t ho B e i0 z 2 bytes ht hi hz0 hz1 hz2 hzc (by decide) v n xs hs hown ⟨g,0,none⟩ 1 c [u0,u1] hx rfl (fun j u hj=>?_) (fun y hy=>by simp only[List.mem_cons,List.not_mem_nil,or_false]at hy;rcases hy with rfl|rfl<;>assumption) (by unfold maxLen;omega) ?_ hbase (fun v' w' h1 h2 _ h4=>h v' w' h1 h2 h4)
 ·have e:(⟨g,0,none⟩:Addr).add j = ⟨g,j,none⟩:=by unfold Addr.add;split<;>simp_all
  rw[e]
  cases j with
  |zero=>injection hj with hj;rw[← hj];exact hn0
  |succ j=>cases j with
   |zero=>injection hj with hj;rw[← hj];exact hn1
   |succ j=>simp at hj
 ·have:(n+1)*bytes≤10000001*1000:=Nat.mul_le_mul (by omega) hby
  omega
set_option maxHeartbeats 4000000 in
set_option maxRecDepth 1000000 in
theorem qplist_any {w:World}{c:PsC}{e:PsE}{p:Ps}{F:FuncId}{n0:Nat}{st:Ps→(Int × ByteArray) × Ps}{btw cl:ByteArray}{d:Nat}(hE:EOk e)(hbw:btw.size=0∨wOk btw=true)(hent:∀args W,(callFunc F args).run Tryz.prog W = .ok (.enter F args) W)(hF:RdR c e F n0 st)(hM:∀p,Mv e p (st p).2)(hG:∀p,Pg p (st p).2)(h:QsW w c e p.at_)(hp:p.bad<0)(hn:p.at_≤e.T.length)(hn0:n0≤p.at_)(hd:e.T.length<p.at_+d):
 Calls Tryz.prog 117 #[.pointer (some ⟨c.P,0,none⟩),.string btw,.string cl,.func (.func F) #[.pointer (some ⟨c.P,0,none⟩)] #[]] w (RQ c e w (rL e st btw cl d [] p).2 (KLr w (rL e st btw cl d [] p).1)):=by
 have HF:=hide hF
 have HH:=hide h
 have HP0:Hid (p.bad<0∧p.at_≤e.T.length∧n0≤p.at_∧e.T.length<p.at_+d):=⟨hp,hn,hn0,hd⟩
 have htl:=h.tl
 have hPl:=h.blk.lt
 obtain⟨R,hR⟩:∃R,rL e st btw cl d [] p=R:=⟨_,rfl⟩
 have HR:=hide hR
 rw[hR]
 clear hR h hp hn hn0 hd hF
 go_enter Tryz.func117,Tryz.ntmps117
 go_wp2_with fail
 go_loopw [9] (fun lv wr=>∃(d:Nat) (ks:List (Int × ByteArray)) (us:List Value) (p:Ps),rL e st btw cl d ks p=R∧p.bad<0∧p.at_≤e.T.length∧n0≤p.at_∧e.T.length<p.at_+d∧ks.length≤p.at_∧QsW wr c e p.at_∧Gw (· = c.P) w wr∧PaO wr w.heap.size wr.heap.size lv ks us) (fun _ wr=>e.T.length+1 - atQ c wr)
 case atStart=>exact⟨d,[],[],p,HR.out,HP0.out.1,HP0.out.2.1,HP0.out.2.2.1,HP0.out.2.2.2,Nat.zero_le _,HH.out,Gw.refl _ _,PaO.nil _ _ _⟩
 case round=>
  obtain⟨d,ks,us,p,hRL,hp,hn,hn0,hd,hkl,hq,hg,hpo⟩:=hrel
  rename World=>V
  obtain⟨d,rfl⟩:∃k,d=k+1:=⟨d - 1,by omega⟩
  rw[rL]at hRL
  have HTK:=hide (qtake_any cl hq hn)
  obtain⟨la,lc,rfl⟩:=own_sl hpo.own
  have hmu:=atQ_of hq
  have HQ:=hide hq
  have HG:=hide hg
  have HPO:=hide hpo
  clear HR HP0 HH hq hg hpo
  by_cases hcl:e.txt p.at_=cl
  ·rw[if_pos hcl]at hRL
   rw[decide_eq_true hcl,if_pos hcl]at HTK
   go_wp2_with fail
   refine HTK.out.mono ?_
   rintro r V1 ⟨rfl,hqq⟩
   have HQ1:=hide hqq
   clear hqq HTK
   go_wp2
   go_ret
   rw[← hRL]
   exact RQ.ok hp (HG.out.tr HQ1.out.2) HQ1.out.1 ⟨us,(HPO.out.rd HQ1.out.2 hPl).up HQ1.out.2.size⟩
  ·rw[if_neg hcl]at hRL
   rw[decide_eq_false hcl,if_neg hcl]at HTK
   go_wp2_with fail
   refine HTK.out.mono ?_
   rintro r V1 ⟨rfl,hqq⟩
   have HQ1:=hide hqq
   clear hqq HTK
   have HGV:=hide HQ1.out.2
   have HG2:=hide (HG.out.tr HQ1.out.2)
   by_cases hbz:btw.size=0
   ·obtain rfl:btw = ⟨#[]⟩:=ByteArray.ext (Array.size_eq_zero_iff.1 hbz)
    rw[rLq_no,if_neg (by omega)]at hRL
    go_wp2_with fail
    refine (HF.out V1 (p) HQ1.out.1 hp hn hn0).mono ?_
    rintro r V3 ⟨hg3,⟨hb3,hq3,v,rfl,⟨u,rfl,hpm,hps⟩⟩|⟨hb3,rfl⟩⟩
    ·rw[if_neg (by omega)]at hRL
     obtain⟨pa,pc,rfl⟩:=hpm.slc
     have hgt:=hG (p)
     have hmt:=(hM (p)).top hn
     have hml:=(hM (p)).le
     have hgt':(p).at_<(st (p)).2.at_:=by
      rcases hgt with z|z
      ·omega
      ·exact z
     have HG3:=hide (HG2.out.tr hg3)
     have hPO2:=HPO.out.rd HGV.out hPl
     have hPO3:=hPO2.rd hg3 hPl
     have HPM:=hide hpm.iv
     have HOL:=hide hPO2.olt
     have hz2:V1.heap.size≤V3.heap.size:=hg3.size
     have HQ3:=hide hq3
     have HPO3:=hide hPO3
     have HO3:=hide hPO3.own
     clear hPO2 hPO3 hpm hq3 hgt
     go_wp2_with (at_builtin;refine wp_app2P rfl _ _ 171 174 rfl (.agg #[.int .i64 0,.slice none 0 0]) 32 Tryz.underlying171 Tryz.infoPar rfl (by decide) w.heap.size _ ks.length (prc ks us) rfl (HO3.out.alloc _) V3.heap.size 1 (.int .i64 (st (p)).1.1) (.slice pa (st (p)).1.2.size pc) rfl (by simp) (by simp) rfl rfl ?l1 ?b1 ?_)
     case l1=>omega
     case b1=>(have:=HG3.out.size;simp;omega)
     intro v6 V6 ho6 hg6 hob6
     have hA:Below V3.heap.size V3 (V3.alloc (.cells #[.int .i64 (st (p)).1.1,.slice pa (st (p)).1.2.size pc] 174)):=(Below.refl _ _).alloc (Nat.le_refl _) _
     have hoA:(V3.alloc (.cells #[.int .i64 (st (p)).1.1,.slice pa (st (p)).1.2.size pc] 174)).ownsRow w.heap.size 174 2 (.slice la ks.length lc) ks.length (prc ks us):=HO3.out.alloc _
     have hz6:V3.heap.size≤V6.heap.size:=by have:=hg6.size;simp at this;omega
     have HP6:=hide (((HPO3.out.app HPM.out hps HOL.out HGV.out.size HG2.out.size (Nat.le_trans HGV.out.size hz2) (by simp) hA ho6 hg6 (by rw[World.size_alloc];exact hob6))).up hz6)
     have hQ6:=(HQ3.out.below hA).row hoA hPl hg6
     have HG6:=hide ((HG3.out.blw hA).row hoA (Nat.le_refl _) hg6)
     have hm6:=atQ_of hQ6
     have HQ6:=hide hQ6
     clear hA hoA ho6 hg6 hob6 hQ6
     go_wp2
     go_roundw
     case rel=>exact⟨d,_,us++[_],(st (p)).2,hRL,by omega,hmt,by omega,by omega,by simp;omega,HQ6.out,HG6.out,HP6.out⟩
     case measure=>omega
    ·rw[if_pos hb3]at hRL
     exact⟨rfl,by rw[← hRL];exact RQ.fault hb3 (Mv.refl _ _) (HG2.out.tr hg3)⟩
   ·have hbe:btw.toList.isEmpty=false:=by
     rw[List.isEmpty_eq_false_iff]
     intro g
     have:=congrArg List.length g
     rw[ByteArray.toList_eq,Array.length_toList]at this
     exact hbz this
    by_cases hk0:ks = []
    ·subst hk0
     rw[List.length_nil,rLq_first,if_neg (by omega)]at hRL
     go_wp2_with fail
     refine (HF.out V1 (p) HQ1.out.1 hp hn hn0).mono ?_
     rintro r V3 ⟨hg3,⟨hb3,hq3,v,rfl,⟨u,rfl,hpm,hps⟩⟩|⟨hb3,rfl⟩⟩
     ·rw[if_neg (by omega)]at hRL
      obtain⟨pa,pc,rfl⟩:=hpm.slc
      have hgt:=hG (p)
      have hmt:=(hM (p)).top hn
      have hml:=(hM (p)).le
      have hgt':(p).at_<(st (p)).2.at_:=by
       rcases hgt with z|z
       ·omega
       ·exact z
      have HG3:=hide (HG2.out.tr hg3)
      have hPO2:=HPO.out.rd HGV.out hPl
      have hPO3:=hPO2.rd hg3 hPl
      have HPM:=hide hpm.iv
      have HOL:=hide hPO2.olt
      have hz2:V1.heap.size≤V3.heap.size:=hg3.size
      have HQ3:=hide hq3
      have HPO3:=hide hPO3
      have HO3:=hide hPO3.own
      clear hPO2 hPO3 hpm hq3 hgt
      go_wp2_with (at_builtin;refine wp_app2P rfl _ _ 171 174 rfl (.agg #[.int .i64 0,.slice none 0 0]) 32 Tryz.underlying171 Tryz.infoPar rfl (by decide) w.heap.size _ 0 (prc ([]:List (Int × ByteArray)) us) rfl (HO3.out.alloc _) V3.heap.size 1 (.int .i64 (st (p)).1.1) (.slice pa (st (p)).1.2.size pc) rfl (by simp) (by simp) rfl rfl ?l1 ?b1 ?_)
      case l1=>omega
      case b1=>(have:=HG3.out.size;simp;omega)
      intro v6 V6 ho6 hg6 hob6
      have hA:Below V3.heap.size V3 (V3.alloc (.cells #[.int .i64 (st (p)).1.1,.slice pa (st (p)).1.2.size pc] 174)):=(Below.refl _ _).alloc (Nat.le_refl _) _
      have hoA:(V3.alloc (.cells #[.int .i64 (st (p)).1.1,.slice pa (st (p)).1.2.size pc] 174)).ownsRow w.heap.size 174 2 (.slice la 0 lc) 0 (prc [] us):=HO3.out.alloc _
      have hz6:V3.heap.size≤V6.heap.size:=by have:=hg6.size;simp at this;omega
      have HP6:=hide (((HPO3.out.app HPM.out hps HOL.out HGV.out.size HG2.out.size (Nat.le_trans HGV.out.size hz2) (by simp) hA ho6 hg6 (by rw[World.size_alloc];exact hob6))).up hz6)
      have hQ6:=(HQ3.out.below hA).row hoA hPl hg6
      have HG6:=hide ((HG3.out.blw hA).row hoA (Nat.le_refl _) hg6)
      have hm6:=atQ_of hQ6
      have HQ6:=hide hQ6
      clear hA hoA ho6 hg6 hob6 hQ6
      go_wp2
      go_roundw
      case rel=>exact⟨d,_,us++[_],(st (p)).2,hRL,by omega,hmt,by omega,by omega,by simp;omega,HQ6.out,HG6.out,HP6.out⟩
      case measure=>omega
     ·rw[if_pos hb3]at hRL
      exact⟨rfl,by rw[← hRL];exact RQ.fault hb3 (Mv.refl _ _) (HG2.out.tr hg3)⟩
    ·have hkn:ks.length≠0:=fun q=>hk0 (List.eq_nil_of_length_eq_zero q)
     have hkp:0<ks.length:=by omega
     rw[rLq_yes e hbz hkn]at hRL
     have hwn:=(mv_want e p btw).1
     have hwt:=hwn.top hn
     have hwl:=hwn.le
     have HWN:=hide (qwant hE btw (hbw.resolve_left hbz) HQ1.out.1 hp hn)
     clear hk0 hkn hwn
     go_wp2_with fail
     refine HWN.out.mono ?_
     rintro r V2 ⟨hg2,⟨hb2,hq2,_,rfl,rfl⟩|⟨hb2,rfl⟩⟩
     ·rw[if_neg (by omega)]at hRL
      have HGV2:=hide (HGV.out.tr hg2)
      have HG22:=hide (HG2.out.tr hg2)
      have HQ2:=hide hq2
      clear hq2
      go_wp2_with fail
      refine (HF.out V2 (e.want p btw) HQ2.out hb2 hwt (Nat.le_trans hn0 hwl)).mono ?_
      rintro r V3 ⟨hg3,⟨hb3,hq3,v,rfl,⟨u,rfl,hpm,hps⟩⟩|⟨hb3,rfl⟩⟩
      ·rw[if_neg (by omega)]at hRL
       obtain⟨pa,pc,rfl⟩:=hpm.slc
       have hgt:=hG (e.want p btw)
       have hmt:=(hM (e.want p btw)).top hwt
       have hml:=(hM (e.want p btw)).le
       have hgt':(e.want p btw).at_<(st (e.want p btw)).2.at_:=by
        rcases hgt with z|z
        ·omega
        ·exact z
       have HG3:=hide (HG22.out.tr hg3)
       have hPO2:=HPO.out.rd HGV2.out hPl
       have hPO3:=hPO2.rd hg3 hPl
       have HPM:=hide hpm.iv
       have HOL:=hide hPO2.olt
       have hz2:V2.heap.size≤V3.heap.size:=hg3.size
       have HQ3:=hide hq3
       have HPO3:=hide hPO3
       have HO3:=hide hPO3.own
       clear hPO2 hPO3 hpm hq3 hgt
       go_wp2_with (at_builtin;refine wp_app2P rfl _ _ 171 174 rfl (.agg #[.int .i64 0,.slice none 0 0]) 32 Tryz.underlying171 Tryz.infoPar rfl (by decide) w.heap.size _ ks.length (prc ks us) rfl (HO3.out.alloc _) V3.heap.size 1 (.int .i64 (st (e.want p btw)).1.1) (.slice pa (st (e.want p btw)).1.2.size pc) rfl (by simp) (by simp) rfl rfl ?l1 ?b1 ?_)
       case l1=>omega
       case b1=>(have:=HG3.out.size;simp;omega)
       intro v6 V6 ho6 hg6 hob6
       have hA:Below V3.heap.size V3 (V3.alloc (.cells #[.int .i64 (st (e.want p btw)).1.1,.slice pa (st (e.want p btw)).1.2.size pc] 174)):=(Below.refl _ _).alloc (Nat.le_refl _) _
       have hoA:(V3.alloc (.cells #[.int .i64 (st (e.want p btw)).1.1,.slice pa (st (e.want p btw)).1.2.size pc] 174)).ownsRow w.heap.size 174 2 (.slice la ks.length lc) ks.length (prc ks us):=HO3.out.alloc _
       have hz6:V3.heap.size≤V6.heap.size:=by have:=hg6.size;simp at this;omega
       have HP6:=hide (((HPO3.out.app HPM.out hps HOL.out HGV2.out.size HG22.out.size (Nat.le_trans HGV2.out.size hz2) (by simp) hA ho6 hg6 (by rw[World.size_alloc];exact hob6))).up hz6)
       have hQ6:=(HQ3.out.below hA).row hoA hPl hg6
       have HG6:=hide ((HG3.out.blw hA).row hoA (Nat.le_refl _) hg6)
       have hm6:=atQ_of hQ6
       have HQ6:=hide hQ6
       clear hA hoA ho6 hg6 hob6 hQ6
       go_wp2
       go_roundw
       case rel=>exact⟨d,_,us++[_],(st (e.want p btw)).2,hRL,by omega,hmt,by omega,by omega,by simp;omega,HQ6.out,HG6.out,HP6.out⟩
       case measure=>omega
      ·rw[if_pos hb3]at hRL
       exact⟨rfl,by rw[← hRL];exact RQ.fault hb3 (Mv.refl _ _) (HG22.out.tr hg3)⟩
     ·rw[if_pos hb2]at hRL
      exact⟨rfl,by rw[← hRL];exact RQ.fault hb2 (Mv.refl _ _) (HG2.out.tr hg2)⟩
end Go.Proofs.YtbiakdjpeblclaaGreatDoor

/-
  The walk of spec.l1literal.
-/
import Derived.Test.YtbiakdjpeblclaaGreatDoorJPaPRS
import Derived.Test.YtbiakdjpeblclaaGreatDoorJPaLX
import Derived.Test.YtbiakdjpeblclaaGreatDoorJPaQPL
import Derived.Test.YtbiakdjpeblclaaGreatDoorJPaE
import Derived.Deep.RegionLaw
import Derived.Test.YtbiakdjpeblclaaGreatDoorJPaMK
namespace Go.Proofs.YtbiakdjpeblclaaGreatDoor
open Go.RowKit
set_option maxHeartbeats 1000000 in
set_option maxRecDepth 1000000 in
theorem specLit_no (b off cap p:Nat)(s:ByteArray)(w:World)(_hs:s.size≤1048576)(_hp:p≤s.size)(hc:∀j,j<s.size→w.cell? ⟨b,off+j,none⟩=some (bts s j))(hno:s.size≤p∨(s.get! p).toNat≠34):
 Calls Tryz.prog 63 #[.slice (some ⟨b,off,none⟩) s.size cap,.int .i64 p] w fun e w'=>e = .returned (.tuple #[.slice none 0 0,.int .i64 0])∧w'=w:=by
 by_cases h:s.size≤p
 ·have t0:decide (s.size≤p)=true:=decide_eq_true h
  clear hno hc
  go_enter Tryz.func63,Tryz.ntmps63
  go_wp2
  go_ret2
  exact⟨rfl,rfl⟩
 ·have t0:decide (s.size≤p)=false:=decide_eq_false h
  have g0:w.cell? ⟨b,off+p,none⟩=some (.int .u8 ((s.get! p).toNat:Int)):=hc p (by omega)
  have b0:(s.get! p).toNat<256:=(s.get! p).toNat_lt
  have hq:(s.get! p).toNat≠34:=by rcases hno with e|e;exact absurd e h;exact e
  generalize (s.get! p).toNat=y at *
  have t1:((y:Int) != 34)=true:=by rw[bne_iff_ne];omega
  clear hno hc hq
  go_enter Tryz.func63,Tryz.ntmps63
  go_wp2
  go_ret2
  exact⟨rfl,rfl⟩
set_option maxHeartbeats 1000000 in
set_option maxRecDepth 1000000 in
theorem specLit_yes (b off cap p:Nat)(s:ByteArray)(w:World)(hs:s.size≤1048576)(hp:p<s.size)(hc:∀j,j<s.size→w.cell? ⟨b,off+j,none⟩=some (bts s j))(hq:(s.get! p).toNat=34):
 Calls Tryz.prog 63 #[.slice (some ⟨b,off,none⟩) s.size cap,.int .i64 p] w fun e w'=>∃v',e = .returned (.tuple #[v',.int .i64 (litRes s p).2])∧w'.ownsRow w.heap.size 5 1 v' (litRes s p).1.length (cv (litRes s p).1)∧Below w.heap.size w w':=by
 have t0:decide (s.size≤p)=false:=decide_eq_false (by omega)
 have g0:w.cell? ⟨b,off+p,none⟩=some (.int .u8 34):=by have:=hc p hp;unfold bts at this;rw[hq]at this;exact this
 have HC:=hide hc
 have HL:Hid (litAt s p=lit s (s.size+1) (p+1) []):=by
  show _=_
  unfold litAt;rw[if_neg (by rintro (e|e);omega;exact e hq)]
 obtain⟨L,hL⟩:∃L,lit s (s.size+1) (p+1) []=L:=⟨_,rfl⟩
 have HLL:=hide hL
 clear hc hq hL
 go_enter Tryz.func63,Tryz.ntmps63
 go_wp2
 go_loopw [6,7] (fun out ix wr=>∃(i f:Nat) (acc:List Nat),ix = .int .i64 i∧p+1≤i∧i≤s.size∧s.size<i+f∧lit s f i acc=L∧acc.length≤4*i∧wr.ownsRow w.heap.size 5 1 out acc.length (cv acc)∧Below w.heap.size w wr) (fun _ ix _=>s.size - (intOf ix).toNat)
 case atStart=>exact⟨p+1,s.size+1,[],by go_num,by omega,by omega,by omega,HLL.out,by simp,World.ownsRow_nil _ _ _ _,Below.refl _ _⟩
 case round=>
  obtain⟨i,f,acc,rfl,hpi,hi,hf,hk,hal,hown,hbl⟩:=hrel
  have HK:=hide hk
  have HOWN:=hide hown
  have HBL:=hide hbl
  have HBs:=hide hbl.size
  clear hk hown hbl
  by_cases hlt:i<s.size
  ·have t1:decide (i<s.size)=true:=decide_eq_true hlt
   have g1:wr.cell? ⟨b,off+i,none⟩=some (.int .u8 ((s.get! i).toNat:Int)):=by
    rw[HBL.out.cell (p:=⟨b,off+i,none⟩) (World.block_lt_of_cell? _ _ (HC.out i hlt))];exact HC.out i hlt
   have b1:(s.get! i).toNat<256:=(s.get! i).toNat_lt
   obtain⟨y,hy⟩:∃y:Nat,(s.get! i).toNat=y:=⟨_,rfl⟩
   rw[hy]at g1 b1
   have HY:=hide hy
   clear hy
   by_cases h34:y=34
   ·have t2:((y:Int) != 34)=false:=by rw[bne_eq_false_iff_eq];omega
    have HR:Hid (litRes s p=(acc,i+1 - p)):=by
     show _=_
     unfold litRes;rw[HL.out,HLL.out,← HK.out,lit_quote hf hlt (by rw[HY.out];exact h34)]
    have t3:decide (s.size≤i)=false:=decide_eq_false (by omega)
    clear h34
    go_wp2
    go_ret2
    exact⟨_,by rw[HR.out];exact ret_vi (by omega),by rw[HR.out];exact HOWN.out,HBL.out⟩
   ·have t2:((y:Int) != 34)=true:=by rw[bne_iff_ne];omega
    by_cases h10:y=10
    ·have t3:((y:Int)==10)=true:=by rw[beq_iff_eq];omega
     have HR:Hid (litRes s p=([],0)):=by
      show _=_
      unfold litRes;rw[HL.out,HLL.out,← HK.out,lit_lf hlt (by rw[HY.out];exact h10)]
     clear h34 h10
     go_wp2
     go_ret2
     exact⟨_,by rw[HR.out];rfl,by rw[HR.out];exact World.ownsRow_nil _ _ _ _,HBL.out⟩
    ·have t3:((y:Int)==10)=false:=by rw[beq_eq_false_iff_ne];omega
     by_cases h92:y=92
     ·have t4:((y:Int)==92)=true:=by rw[beq_iff_eq];omega
      have hle:=lit_esc (acc:=acc) hf hlt (by rw[HY.out];exact h92)
      have hel:=esc_le s (i+1)
      have H23:=esc_any b off cap (i+1) s wr hs (by omega) (fun j hj=>by
       rw[HBL.out.cell (p:=⟨b,off+j,none⟩) (World.block_lt_of_cell? _ _ (HC.out j hj))];exact HC.out j hj)
      obtain⟨E,n,hE⟩:∃E n,esc s (i+1)=(E,n):=⟨_,_,rfl⟩
      rw[hE]at hle hel H23
      have H23':=hide H23
      have HLE:=hide hle
      obtain⟨e9,e4,ein⟩:=hel
      have HIN:=hide ein
      clear hle H23 hE h92 h10 h34 ein
      simp only at e9 e4
      by_cases hn:n=0
      ·have t5:((n:Int)==0)=true:=by rw[beq_iff_eq];omega
       have HR:Hid (litRes s p=([],0)):=by
        show _=_
        unfold litRes;rw[HL.out,HLL.out,← HK.out,HLE.out.1 hn]
       clear hn
       go_wp2_with fail
       refine H23'.out.mono ?_
       rintro e w1 ⟨a,g,c,rfl,hag,hcs,hb1⟩
       have HB1:=hide (HBL.out.trans (hb1.mono HBs.out))
       clear hag hcs hb1
       go_wp2
       go_ret2
       exact⟨_,by rw[HR.out];rfl,by rw[HR.out];exact World.ownsRow_nil _ _ _ _,HB1.out⟩
      ·have t5:((n:Int)==0)=false:=by rw[beq_eq_false_iff_ne];omega
       obtain⟨f',hf',hgk⟩:=HLE.out.2 hn
       obtain⟨hin,hpos⟩:=HIN.out hn
       have HGK:Hid (lit s f' (i+1+n) (acc++E)=L):=by show _=_;rw[← HK.out,hgk]
       have hg1:f≤f'+1:=by omega
       have hn1:1≤n:=by omega
       simp only at hin hpos
       clear hn hf' hgk
       go_wp2_with fail
       refine H23'.out.mono ?_
       rintro e w1 ⟨a,g,c,rfl,hag,hcs,hb1⟩
       obtain rfl:=hag hpos
       have HO1:=hide (kept_below HOWN.out (hb1.mono (Nat.le_refl _)))
       have HB1:=hide (HBL.out.trans (hb1.mono HBs.out))
       have HCS:=hide hcs
       clear hag hcs hb1
       go_wp2_with (at_builtin;refine wp_app rfl (.tmp 53) (.tmp 54) rfl w.heap.size _ acc rfl HO1.out g c E rfl ?n1 ?l1 ?b1 ?_)
       case n1=>exact HCS.out
       case l1=>omega
       case b1=>exact HB1.out.size
       intro v' w' l hl ho hg
       have e1:l.length=acc.length+E.length:=by rw[hl.out];simp
       go_wp2
       go_roundw
       case rel=>exact⟨i+1+n,f',l,by go_num,by omega,by omega,by omega,by rw[hl.out];exact HGK.out,by omega,ho,app_below HB1.out HO1.out HB1.out.size hg⟩
       case measure=>simp[intOf];omega
     ·have t4:((y:Int)==92)=false:=by rw[beq_eq_false_iff_ne];omega
      obtain⟨g,hg,hgk⟩:=lit_byte (acc:=acc) hf hlt (by rw[HY.out];exact h34) (by rw[HY.out];exact h10) (by rw[HY.out];exact h92)
      have HGK:Hid (lit s g (i+1) (acc++[y])=L):=by show _=_;rw[← HK.out,hgk,HY.out]
      have hg1:f≤g+1:=by omega
      clear h34 h10 h92 hg hgk
      go_wp2_with (at_builtin;refine wp_app rfl (.tmp 60) (.tmp 65) rfl w.heap.size _ acc rfl (HOWN.out.alloc _) wr.heap.size 1 [y] rfl ?n1 ?l1 ?b1 ?_)
      case n1=>(intro j hj;match j,hj with|0,_=>simp)
      case l1=>(show acc.length+1≤_;omega)
      case b1=>(have:=HBs.out;simp;omega)
      intro v' w' l hl ho hg
      have e1:l.length=acc.length+1:=by rw[hl.out];simp
      go_wp2
      go_roundw
      case rel=>exact⟨i+1,g,l,by go_num,by omega,by omega,by omega,by rw[hl.out];exact HGK.out,by omega,ho,app_below (HBL.out.alloc HBs.out _) (HOWN.out.alloc _) (by have:=HBs.out;simp;omega) hg⟩
      case measure=>simp[intOf];omega
  ·have t1:decide (i<s.size)=false:=decide_eq_false hlt
   have t3:decide (s.size≤i)=true:=decide_eq_true (by omega)
   have HR:Hid (litRes s p=([],0)):=by
    show _=_
    unfold litRes;rw[HL.out,HLL.out,← HK.out,lit_end (by omega)]
   go_wp2
   go_ret2
   exact⟨_,by rw[HR.out];rfl,by rw[HR.out];exact World.ownsRow_nil _ _ _ _,HBL.out⟩
theorem specLit_any (b off cap p:Nat)(s:ByteArray)(w:World)(hs:s.size≤1048576)(hp:p≤s.size)(hc:∀j,j<s.size→w.cell? ⟨b,off+j,none⟩=some (bts s j)):
 Calls Tryz.prog 63 #[.slice (some ⟨b,off,none⟩) s.size cap,.int .i64 p] w fun e w'=>∃v',e = .returned (.tuple #[v',.int .i64 (litRes s p).2])∧w'.ownsRow w.heap.size 5 1 v' (litRes s p).1.length (cv (litRes s p).1)∧Below w.heap.size w w':=by
 by_cases h:s.size≤p∨(s.get! p).toNat≠34
 ·have e:litRes s p=([],0):=by unfold litRes litAt;rw[if_pos h]
  rw[e]
  refine (specLit_no b off cap p s w hs hp hc h).mono ?_
  rintro e w' ⟨rfl,rfl⟩
  exact⟨_,rfl,World.ownsRow_nil _ _ _ _,Below.refl _ _⟩
 ·have h1:p<s.size:=by omega
  have h2:(s.get! p).toNat=34:=by omega
  exact specLit_yes b off cap p s w hs h1 hc h2
set_option maxHeartbeats 400000 in
theorem good_any (b off cap:Nat)(s:ByteArray)(w:World)(hs:s.size≤1048576)(hc:∀j,j<s.size→w.cell? ⟨b,off+j,none⟩=some (bts s j)):
 Calls Tryz.prog 98 #[.slice (some ⟨b,off,none⟩) s.size cap] w fun e w'=>e = .returned (.bool (((chk s).1:Int)==0))∧Below w.heap.size w w':=by
 have H0:=specCheck_any b off cap s w hs hc
 obtain⟨A,D,hAD⟩:∃A D,chk s=(A,D):=⟨_,_,rfl⟩
 rw[pairVal_of hAD]at H0
 rw[hAD]
 have H:=hide H0
 clear hc H0 hAD
 go_enter Tryz.func98,Tryz.ntmps98
 go_wp2_with (go_at_call 32;refine H.out.mono ?_;rintro e w1 ⟨rfl,hb1⟩)
 go_ret
 exact⟨rfl,hb1⟩
set_option maxHeartbeats 1000000 in
set_option maxRecDepth 1000000 in
theorem specUnq_any (b off cap:Nat)(s:ByteArray)(w:World)(hs:s.size≤1048576)(hc:∀j,j<s.size→w.cell? ⟨b,off+j,none⟩=some (bts s j)):
 Calls Tryz.prog 96 #[.slice (some ⟨b,off,none⟩) s.size cap] w fun e w'=>∃v',e = .returned (.tuple #[v',.int .i64 (unq s).2])∧w'.ownsRow w.heap.size 5 1 v' (unq s).1.length (cv (unq s).1)∧Below w.heap.size w w':=by
 have H13:=hide (good_any b off cap s w hs hc)
 have HC:=hide hc
 clear hc
 by_cases hg:(chk s).1=0
 ·have hgb:(((chk s).1:Int)==0)=true:=by rw[beq_iff_eq];omega
  rw[hgb]at H13
  have HG:=hide hg
  clear hg hgb
  go_enter Tryz.func96,Tryz.ntmps96
  go_wp2_with fail
  refine H13.out.mono ?_
  rintro e w1 ⟨rfl,hb1⟩
  have H17:=specLit_any b off cap 0 s w1 hs (Nat.zero_le _) (fun j hj=>by rw[hb1.cell (p:=⟨b,off+j,none⟩) (World.block_lt_of_cell? _ _ (HC.out j hj))];exact HC.out j hj)
  obtain⟨l,n,hr⟩:∃l n,litRes s 0=(l,n):=⟨_,_,rfl⟩
  rw[hr]at H17
  have HU:Hid (unq s=if n≠0∧n=s.size then (l,0) else ([],2)):=by
   show _=_
   unfold unq;rw[hr]
   by_cases h:n≠0∧n=s.size
   ·rw[if_pos h,if_pos ⟨HG.out,h⟩]
   ·rw[if_neg h,if_neg (fun g=>h g.2)]
  have H17':=hide H17
  have HB1:=hide hb1
  have hsz:=hb1.size
  clear hb1 H17 hr
  go_wp2_with fail
  refine H17'.out.mono ?_
  rintro e w2 ⟨v',rfl,ho,hb2⟩
  have HO:=hide ho
  have HB2:Hid (Below w.heap.size w w2):=HB1.out.trans (hb2.mono hsz)
  have HOB:Hid (w2.ownsRow w.heap.size 5 1 v' l.length (cv l)):=by
   refine⟨ho.1,?_⟩
   rcases ho.2 with h|⟨g,c,cur,e1,e2,e3⟩
   ·exact .inl h
   ·exact .inr ⟨g,c,cur,e1,Nat.le_trans hsz e2,e3⟩
  clear ho hb2
  simp only
  by_cases h0:n=0
  ·have t1:((n:Int)==0)=true:=by rw[beq_iff_eq];omega
   have HR:Hid (unq s=([],2)):=by show _=_;rw[HU.out,if_neg (fun g=>g.1 h0)]
   clear h0
   go_wp2
   go_ret2
   exact⟨_,by rw[HR.out];rfl,by rw[HR.out];exact World.ownsRow_nil _ _ _ _,HB2.out⟩
  ·have t1:((n:Int)==0)=false:=by rw[beq_eq_false_iff_ne];omega
   by_cases hn:n=s.size
   ·have t2:((n:Int) != (s.size:Int))=false:=by rw[bne_eq_false_iff_eq];omega
    have HR:Hid (unq s=(l,0)):=by show _=_;rw[HU.out,if_pos ⟨h0,hn⟩]
    clear h0 hn
    go_wp2
    go_ret2
    exact⟨_,by rw[HR.out];rfl,by rw[HR.out];exact HOB.out,HB2.out⟩
   ·have t2:((n:Int) != (s.size:Int))=true:=by rw[bne_iff_ne];omega
    have HR:Hid (unq s=([],2)):=by show _=_;rw[HU.out,if_neg (fun g=>hn g.2)]
    clear h0 hn
    go_wp2
    go_ret2
    exact⟨_,by rw[HR.out];rfl,by rw[HR.out];exact World.ownsRow_nil _ _ _ _,HB2.out⟩
 ·have hgb:(((chk s).1:Int)==0)=false:=by rw[beq_eq_false_iff_ne];omega
  have HR:Hid (unq s=([],2)):=by show _=_;unfold unq;rw[if_neg (fun g=>hg g.1)]
  rw[hgb]at H13
  clear hg hgb
  go_enter Tryz.func96,Tryz.ntmps96
  go_wp2_with (go_at_call 98;refine H13.out.mono ?_;rintro e w1 ⟨rfl,hb1⟩)
  go_ret2
  exact⟨_,by rw[HR.out];rfl,by rw[HR.out];exact World.ownsRow_nil _ _ _ _,hb1⟩
end Go.Proofs.YtbiakdjpeblclaaGreatDoor
namespace Go.Proofs.YtbiakdjpeblclaaGreatDoor
theorem ubytes_lo {v:Nat}(h:pointB (v:Int)=true):Lo (ubytes v):=by
 unfold pointB at h
 unfold ubytes
 intro x hx
 simp at h
 repeat' split at hx
 all_goals simp at hx
 all_goals omega
theorem esc_lo (s:ByteArray)(i:Nat):Lo (esc s i).1:=by
 unfold esc
 repeat' split
 ·exact Lo.nil
 ·exact Lo.one (s.get! i).toNat_lt
 ·exact Lo.nil
 ·exact Lo.nil
 ·rename_i h
  refine ubytes_lo ?_
  cases g:pointB ((hv s (i+2) (kc s (i+2) 7):Nat):Int) with
  |true=>rfl
  |false=>exact absurd (.inr (.inr (.inr (.inr g)))) h
theorem lit_lo (s:ByteArray):∀f i acc l q,Lo acc→lit s f i acc=some (l,q)→Lo l
 |0,_,_,_,_,_,h=>by simp[lit]at h
 |f+1,i,acc,l,q,ha,h=>by
  rw[lit]at h
  repeat' split at h
  ·cases h
  ·injection h with h;injection h with h;rw[← h];exact ha
  ·cases h
  ·cases h
  ·exact lit_lo s f _ _ l q (ha.app (esc_lo s _)) h
  ·exact lit_lo s f _ _ l q (ha.app (Lo.one (s.get! i).toNat_lt)) h
theorem unq_lo (s:ByteArray):Lo (unq s).1:=by
 unfold unq
 split
 ·unfold litRes litAt
  by_cases h:s.size≤0∨(s.get! 0).toNat≠34
  ·rw[if_pos h];exact Lo.nil
  ·rw[if_neg h]
   cases e:lit s (s.size+1) (0+1) [] with
   |none=>exact Lo.nil
   |some lq=>exact lit_lo s _ _ _ lq.1 lq.2 Lo.nil e
 ·exact Lo.nil
theorem lit_len (s:ByteArray):∀f i acc l q,i≤s.size→lit s f i acc=some (l,q)→l.length+4*i≤acc.length+4*s.size
 |0,_,_,_,_,_,h=>by simp[lit]at h
 |f+1,i,acc,l,q,hi,h=>by
  rw[lit]at h
  by_cases h1:s.size≤i
  ·rw[if_pos h1]at h;cases h
  rw[if_neg h1]at h
  by_cases h2:(s.get! i).toNat=34
  ·rw[if_pos h2]at h
   have e:acc=l:=by injection h with h;injection h
   rw[e];omega
  rw[if_neg h2]at h
  by_cases h3:(s.get! i).toNat=10
  ·rw[if_pos h3]at h;cases h
  rw[if_neg h3]at h
  by_cases h4:(s.get! i).toNat=92
  ·rw[if_pos h4]at h
   by_cases h5:(esc s (i+1)).2=0
   ·rw[if_pos h5]at h;cases h
   ·rw[if_neg h5]at h
    have he:=esc_le s (i+1)
    have:=(he.2.2 h5).1
    have ih:=lit_len s f _ _ l q (by omega) h
    rw[List.length_append]at ih
    omega
  ·rw[if_neg h4]at h
   have ih:=lit_len s f _ _ l q (by omega) h
   rw[List.length_append,List.length_singleton]at ih
   omega
theorem unq_le (s:ByteArray):(unq s).1.length≤4*s.size:=by
 unfold unq
 split
 ·unfold litRes litAt
  by_cases h:s.size≤0∨(s.get! 0).toNat≠34
  ·rw[if_pos h];simp
  ·rw[if_neg h]
   cases e:lit s (s.size+1) (0+1) [] with
   |none=>simp
   |some lq=>
    obtain⟨l,q⟩:=lq
    have:=lit_len s _ _ _ l q (by omega) e
    simp only[List.length_nil]at this ⊢
    omega
 ·simp
end Go.Proofs.YtbiakdjpeblclaaGreatDoor
namespace Go.Proofs.YtbiakdjpeblclaaGreatDoor
open Go.RowKit
def lft (e:PsE)(p:Ps):Nat:=e.T.length - p.at_
set_option maxHeartbeats 4000000 in
set_option maxRecDepth 1000000 in
theorem unary_not {w:World}{c:PsC}{e:PsE}{p:Ps}{f:Nat}(h:PsW w c e p)(IH:∀w p,PsW w c e p→2*lft e p+2≤f→Calls Tryz.prog 66 #[.pointer (some ⟨c.P,0,none⟩)] w (ExQ c e w (rU e f p)))(hf:2*lft e p+2≤f+1)(h1:e.is p (⟨#[33]⟩:ByteArray)=true):
 Calls Tryz.prog 66 #[.pointer (some ⟨c.P,0,none⟩)] w (ExQ c e w (rU e (f+1) p)):=by
 have HS0:=hide (RSt.start h)
 have hpl:=PsE.place_le h
 have HPL:=hide (l2place_any (RSt.start h).ps)
 obtain⟨W0,hW0⟩:∃W,w.alloc (.cells #[.slice none 0 0,.slice none 0 0] 45)=W:=⟨_,rfl⟩
 rw[hW0]at HS0 HPL
 obtain⟨pl,hplE⟩:∃q,e.place p=q:=⟨_,rfl⟩
 rw[hplE]at hpl HPL
 have hk:=kind_pos (is_kind h1)
 have HU:Hid (rU e (f+1) p=(ptN (ndK 21) pl [(rU e f p.on).1],(rU e f p.on).2)):=by
  show _=_
  rw[rU,if_pos h1,hplE]
 have HBD:=hide (bd_expr e f).2.2
 have hfi:=fi_le (e:=e) p.on
 have htl:=h.tl
 have HIH:Hid (∀V,PsW V c e p.on→Calls Tryz.prog 66 #[.pointer (some ⟨c.P,0,none⟩)] V (ExQ c e V (rU e f p.on))):=fun V hV=>IH V p.on hV (by unfold lft at hf ⊢;show 2*(e.T.length - (p.at_+1))+2≤f;omega)
 obtain⟨X,hX⟩:∃X,rU e f p.on=X:=⟨_,rfl⟩
 have HBX:=hide (HBD.out p.on)
 rw[hX]at HU HIH HBX
 clear h IH hf hk hplE HBD hX
 go_enter Tryz.func66,Tryz.ntmps66
 go_wp2_with fail
 refine HPL.out.mono ?_
 rintro r V ⟨rfl,m0,rfl⟩
 have HS1:=hide (HS0.out.below (below_drewN (Below.refl _ _) m0))
 clear HPL hW0 HS0
 go_wp2_with fail
 refine (l2got_any (⟨#[33]⟩:ByteArray) HS1.out.ps).mono ?_
 rw[h1]
 rintro r V ⟨rfl,hq⟩
 have HS2:=hide (HS1.out.rd hq)
 clear hq HS1
 rw[if_pos rfl]at HS2
 go_wp2_with fail
 refine (HIH.out _ HS2.out.ps).mono ?_
 rintro r V2 ⟨ut,up,rfl,hv,hq⟩
 have HS3:=hide (HS2.out.rd hq)
 have hvR:=hv.mono (G':=fun g=>w.heap.size<g) (fun g hg _=>Nat.lt_of_lt_of_le HS2.out.size hg)
 obtain⟨xa,xc,xb,xd,rfl,rfl,_,_⟩:=hvR.slc
 have HVX:=hide hvR
 clear hv hvR hq HS2 HIH
 obtain⟨V3,hV3⟩:∃W,V2.alloc (.cells #[.slice (some ⟨xa,0,none⟩) X.1.t.length xc,.slice (some ⟨xb,0,none⟩) X.1.t.length xd] 45)=W:=⟨_,rfl⟩
 have hbA:Below V2.heap.size V2 V3:=by rw[← hV3];exact (Below.refl _ _).alloc (Nat.le_refl _) _
 have HBK:Hid (Blk V3 V2.heap.size 45 #[.slice (some ⟨xa,0,none⟩) X.1.t.length xc,.slice (some ⟨xb,0,none⟩) X.1.t.length xd]):=by rw[← hV3];exact Blk.new _ _ _
 have HS4:=hide (HS3.out.below hbA)
 have HPR:=hide (pr_one HBK.out HS3.out.size (HVX.out.gw (P:=fun _=>False) (Gw.of_below hbA) (fun _ q=>q.elim)))
 have hlen:1+nsl [X.1]≤1000000:=by rw[nsl_one];have:=HBX.out.len;omega
 clear hbA HS3 HBK HVX
 go_wp2_with fail
 refine (l2node_any (m:=⟨ndK 21,.slice none 0 0,.slice none 0 0,.slice none 0 0⟩) (pl:=pl) (G:=fun g=>w.heap.size<g) (nv_plain _ _ 21 0) (HPR.out) (fun g hg=>Nat.lt_of_lt_of_le HS4.out.size hg) (hlen) (by simp)).mono ?_
 rintro r V' ⟨vt,vp,rfl,hv,hb⟩
 have HF:=hide (HS4.out.below hb)
 obtain⟨ga,gc,gb,gd,rfl,rfl,_,_⟩:=hv.slc
 have HV:=hide hv
 have r0:=HF.out.res.cell 0
 have r1:=HF.out.res.cell 1
 have f0:=HF.out.res.frozen 0
 have f1:=HF.out.res.frozen 1
 simp only[List.getElem?_toArray,List.getElem?_cons_succ,List.getElem?_cons_zero]at r0 r1
 clear hv hb
 go_wp2_with fail
 refine bodyPost_ret (results_one rfl _ _ _ w.heap.size 45 _ (0,0) rfl ((HF.out.res.set 0 _).set 1 _) Tryz.underlying45 (by kernel_rfl)) rfl ?_
 rw[HU.out]
 exact HF.out.fin HV.out
set_option maxHeartbeats 4000000 in
set_option maxRecDepth 1000000 in
theorem unary_neg {w:World}{c:PsC}{e:PsE}{p:Ps}{f:Nat}(h:PsW w c e p)(IH:∀w p,PsW w c e p→2*lft e p+2≤f→Calls Tryz.prog 66 #[.pointer (some ⟨c.P,0,none⟩)] w (ExQ c e w (rU e f p)))(hf:2*lft e p+2≤f+1)(h0:e.is p (⟨#[33]⟩:ByteArray)=false)(h1:e.is p (⟨#[45]⟩:ByteArray)=true):
 Calls Tryz.prog 66 #[.pointer (some ⟨c.P,0,none⟩)] w (ExQ c e w (rU e (f+1) p)):=by
 have HS0:=hide (RSt.start h)
 have hpl:=PsE.place_le h
 have HPL:=hide (l2place_any (RSt.start h).ps)
 obtain⟨W0,hW0⟩:∃W,w.alloc (.cells #[.slice none 0 0,.slice none 0 0] 45)=W:=⟨_,rfl⟩
 rw[hW0]at HS0 HPL
 obtain⟨pl,hplE⟩:∃q,e.place p=q:=⟨_,rfl⟩
 rw[hplE]at hpl HPL
 have hk:=kind_pos (is_kind h1)
 have HU:Hid (rU e (f+1) p=(ptN (ndK 22) pl [(rU e f p.on).1],(rU e f p.on).2)):=by
  show _=_
  rw[rU,if_neg (by rw[h0];exact Bool.false_ne_true),if_pos h1,hplE]
 have HBD:=hide (bd_expr e f).2.2
 have hfi:=fi_le (e:=e) p.on
 have htl:=h.tl
 have HIH:Hid (∀V,PsW V c e p.on→Calls Tryz.prog 66 #[.pointer (some ⟨c.P,0,none⟩)] V (ExQ c e V (rU e f p.on))):=fun V hV=>IH V p.on hV (by unfold lft at hf ⊢;show 2*(e.T.length - (p.at_+1))+2≤f;omega)
 obtain⟨X,hX⟩:∃X,rU e f p.on=X:=⟨_,rfl⟩
 have HBX:=hide (HBD.out p.on)
 rw[hX]at HU HIH HBX
 clear h IH hf hk hplE HBD hX
 go_enter Tryz.func66,Tryz.ntmps66
 go_wp2_with fail
 refine HPL.out.mono ?_
 rintro r V ⟨rfl,m0,rfl⟩
 have HS1:=hide (HS0.out.below (below_drewN (Below.refl _ _) m0))
 clear HPL hW0 HS0
 go_wp2_with fail
 refine (l2got_any (⟨#[33]⟩:ByteArray) HS1.out.ps).mono ?_
 rw[h0]
 rintro r V ⟨rfl,hq⟩
 have HSa:=hide (HS1.out.rd hq)
 clear hq HS1
 rw[if_neg Bool.false_ne_true]at HSa
 go_wp2_with fail
 refine (l2got_any (⟨#[45]⟩:ByteArray) HSa.out.ps).mono ?_
 rw[h1]
 rintro r V ⟨rfl,hq⟩
 have HS2:=hide (HSa.out.rd hq)
 clear hq HSa
 rw[if_pos rfl]at HS2
 go_wp2_with fail
 refine (HIH.out _ HS2.out.ps).mono ?_
 rintro r V2 ⟨ut,up,rfl,hv,hq⟩
 have HS3:=hide (HS2.out.rd hq)
 have hvR:=hv.mono (G':=fun g=>w.heap.size<g) (fun g hg _=>Nat.lt_of_lt_of_le HS2.out.size hg)
 obtain⟨xa,xc,xb,xd,rfl,rfl,_,_⟩:=hvR.slc
 have HVX:=hide hvR
 clear hv hvR hq HS2 HIH
 obtain⟨V3,hV3⟩:∃W,V2.alloc (.cells #[.slice (some ⟨xa,0,none⟩) X.1.t.length xc,.slice (some ⟨xb,0,none⟩) X.1.t.length xd] 45)=W:=⟨_,rfl⟩
 have hbA:Below V2.heap.size V2 V3:=by rw[← hV3];exact (Below.refl _ _).alloc (Nat.le_refl _) _
 have HBK:Hid (Blk V3 V2.heap.size 45 #[.slice (some ⟨xa,0,none⟩) X.1.t.length xc,.slice (some ⟨xb,0,none⟩) X.1.t.length xd]):=by rw[← hV3];exact Blk.new _ _ _
 have HS4:=hide (HS3.out.below hbA)
 have HPR:=hide (pr_one HBK.out HS3.out.size (HVX.out.gw (P:=fun _=>False) (Gw.of_below hbA) (fun _ q=>q.elim)))
 have hlen:1+nsl [X.1]≤1000000:=by rw[nsl_one];have:=HBX.out.len;omega
 clear hbA HS3 HBK HVX
 go_wp2_with fail
 refine (l2node_any (m:=⟨ndK 22,.slice none 0 0,.slice none 0 0,.slice none 0 0⟩) (pl:=pl) (G:=fun g=>w.heap.size<g) (nv_plain _ _ 22 0) (HPR.out) (fun g hg=>Nat.lt_of_lt_of_le HS4.out.size hg) (hlen) (by simp)).mono ?_
 rintro r V' ⟨vt,vp,rfl,hv,hb⟩
 have HF:=hide (HS4.out.below hb)
 obtain⟨ga,gc,gb,gd,rfl,rfl,_,_⟩:=hv.slc
 have HV:=hide hv
 have r0:=HF.out.res.cell 0
 have r1:=HF.out.res.cell 1
 have f0:=HF.out.res.frozen 0
 have f1:=HF.out.res.frozen 1
 simp only[List.getElem?_toArray,List.getElem?_cons_succ,List.getElem?_cons_zero]at r0 r1
 clear hv hb
 go_wp2_with fail
 refine bodyPost_ret (results_one rfl _ _ _ w.heap.size 45 _ (0,0) rfl ((HF.out.res.set 0 _).set 1 _) Tryz.underlying45 (by kernel_rfl)) rfl ?_
 rw[HU.out]
 exact HF.out.fin HV.out
set_option maxHeartbeats 4000000 in
set_option maxRecDepth 1000000 in
theorem unary_par {w:World}{c:PsC}{e:PsE}{p:Ps}{f:Nat}(h:PsW w c e p)(IH:∀w p,PsW w c e p→2*lft e p+3≤f→Calls Tryz.prog 40 #[.pointer (some ⟨c.P,0,none⟩),.int .i64 1] w (ExQ c e w (rE e f 1 p)))(hf:2*lft e p+2≤f+1)(n0:e.is p (⟨#[33]⟩:ByteArray)=false)(n1:e.is p (⟨#[45]⟩:ByteArray)=false)(h1:e.is p (⟨#[40]⟩:ByteArray)=true):
 Calls Tryz.prog 66 #[.pointer (some ⟨c.P,0,none⟩)] w (ExQ c e w (rU e (f+1) p)):=by
 have HS0:=hide (RSt.start h)
 have hpl:=PsE.place_le h
 have HPL:=hide (l2place_any (RSt.start h).ps)
 obtain⟨W0,hW0⟩:∃W,w.alloc (.cells #[.slice none 0 0,.slice none 0 0] 45)=W:=⟨_,rfl⟩
 rw[hW0]at HS0 HPL
 obtain⟨pl,hplE⟩:∃q,e.place p=q:=⟨_,rfl⟩
 rw[hplE]at hpl HPL
 have hk:=kind_pos (is_kind h1)
 have HU:Hid (rU e (f+1) p=((rE e f 1 p.on).1,e.want (rE e f 1 p.on).2 (⟨#[41]⟩:ByteArray))):=by
  show _=_
  rw[rU,if_neg (by rw[n0];exact Bool.false_ne_true),if_neg (by rw[n1];exact Bool.false_ne_true),if_pos h1]
 have HIH:Hid (∀V,PsW V c e p.on→Calls Tryz.prog 40 #[.pointer (some ⟨c.P,0,none⟩),.int .i64 1] V (ExQ c e V (rE e f 1 p.on))):=fun V hV=>IH V p.on hV (by unfold lft at hf ⊢;show 2*(e.T.length - (p.at_+1))+3≤f;omega)
 obtain⟨X,hX⟩:∃X,rE e f 1 p.on=X:=⟨_,rfl⟩
 rw[hX]at HU HIH
 clear h IH hf hk hplE hX
 go_enter Tryz.func66,Tryz.ntmps66
 go_wp2_with fail
 refine HPL.out.mono ?_
 rintro r V ⟨rfl,m0,rfl⟩
 have HS1:=hide (HS0.out.below (below_drewN (Below.refl _ _) m0))
 clear HPL hW0 HS0
 go_wp2_with fail
 refine (l2got_any (⟨#[33]⟩:ByteArray) HS1.out.ps).mono ?_
 rw[n0]
 rintro r V ⟨rfl,hq⟩
 have HSn0:=hide (HS1.out.rd hq)
 clear hq HS1
 rw[if_neg Bool.false_ne_true]at HSn0
 go_wp2_with fail
 refine (l2got_any (⟨#[45]⟩:ByteArray) HSn0.out.ps).mono ?_
 rw[n1]
 rintro r V ⟨rfl,hq⟩
 have HSn1:=hide (HSn0.out.rd hq)
 clear hq HSn0
 rw[if_neg Bool.false_ne_true]at HSn1
 go_wp2_with fail
 refine (l2got_any (⟨#[40]⟩:ByteArray) HSn1.out.ps).mono ?_
 rw[h1]
 rintro r V ⟨rfl,hq⟩
 have HS2:=hide (HSn1.out.rd hq)
 clear hq HSn1
 rw[if_pos rfl]at HS2
 go_wp2_with fail
 refine (HIH.out _ HS2.out.ps).mono ?_
 rintro r V2 ⟨ut,up,rfl,hv,hq⟩
 have HS3:=hide (HS2.out.rd hq)
 have hvR:=hv.mono (G':=fun g=>w.heap.size<g) (fun g hg _=>Nat.lt_of_lt_of_le HS2.out.size hg)
 obtain⟨xa,xc,xb,xd,rfl,rfl,_,_⟩:=hvR.slc
 have HVX:=hide hvR
 clear hv hvR hq HS2 HIH
 obtain⟨V3,hV3⟩:∃W,V2.alloc (.cells #[.slice none 0 0,.slice none 0 0] 45)=W:=⟨_,rfl⟩
 have hbA:Below V2.heap.size V2 V3:=by rw[← hV3];exact (Below.refl _ _).alloc (Nat.le_refl _) _
 have hBK:Blk V3 V2.heap.size 45 #[.slice none 0 0,.slice none 0 0]:=by rw[← hV3];exact Blk.new _ _ _
 have q0:=hBK.cell 0
 have q1:=hBK.cell 1
 have qf0:=hBK.frozen 0
 have qf1:=hBK.frozen 1
 simp only[List.getElem?_toArray,List.getElem?_cons_succ,List.getElem?_cons_zero]at q0 q1
 obtain⟨V4,hV4⟩:∃W,(V3.setCell ⟨V2.heap.size,0,none⟩ (.slice (some ⟨xa,0,none⟩) X.1.t.length xc)).setCell ⟨V2.heap.size,1,none⟩ (.slice (some ⟨xb,0,none⟩) X.1.t.length xd)=W:=⟨_,rfl⟩
 have hbB:Below V2.heap.size V2 V4:=by rw[← hV4];exact (hbA.setCell (Nat.le_refl _) _).setCell (Nat.le_refl _) _
 have HBK:Hid (Blk V4 V2.heap.size 45 #[.slice (some ⟨xa,0,none⟩) X.1.t.length xc,.slice (some ⟨xb,0,none⟩) X.1.t.length xd]):=by rw[← hV4];exact (hBK.set 0 _).set 1 _
 have HS4:=hide (HS3.out.below hbB)
 have HV4:=hide (HVX.out.gw (P:=fun _=>False) (Gw.of_below hbB) (fun _ q=>q.elim))
 have HRX:Hid (w.heap.size<V2.heap.size):=HS3.out.size
 clear hbA hbB HS3 HVX hBK
 go_wp2_with fail
 refine (l2want_any (⟨#[41]⟩:ByteArray) HS4.out.ps).mono ?_
 rintro r V' ⟨rfl,hq⟩
 have HF:=hide (HS4.out.rd hq)
 have hp:=HS4.out.lt
 have hx:=HRX.out
 have hBK:=hq.2.blk HBK.out (by show ¬V2.heap.size=c.P;omega)
 have HV:=hide (HV4.out.gw hq.2 (fun k hk=>by rw[hk];omega))
 have z0:=hBK.cell 0
 have z1:=hBK.cell 1
 have r0:=HF.out.res.cell 0
 have r1:=HF.out.res.cell 1
 have f0:=HF.out.res.frozen 0
 have f1:=HF.out.res.frozen 1
 simp only[List.getElem?_toArray,List.getElem?_cons_succ,List.getElem?_cons_zero]at r0 r1 z0 z1
 clear hq HS4 HV4 HBK hBK q0 q1 qf0 qf1 hV3 hV4 hp hx
 go_wp2_with fail
 refine bodyPost_ret (results_one rfl _ _ _ w.heap.size 45 _ (0,0) rfl ((HF.out.res.set 0 _).set 1 _) Tryz.underlying45 (by kernel_rfl)) rfl ?_
 rw[HU.out]
 exact HF.out.fin HV.out
set_option maxHeartbeats 4000000 in
set_option maxRecDepth 1000000 in
theorem unary_true {w:World}{c:PsC}{e:PsE}{p:Ps}{f:Nat}(h:PsW w c e p)(n0:e.is p (⟨#[33]⟩:ByteArray)=false)(n1:e.is p (⟨#[45]⟩:ByteArray)=false)(n2:e.is p (⟨#[40]⟩:ByteArray)=false)(h1:e.is p (⟨#[116,114,117,101]⟩:ByteArray)=true):
 Calls Tryz.prog 66 #[.pointer (some ⟨c.P,0,none⟩)] w (ExQ c e w (rU e (f+1) p)):=by
 have HS0:=hide (RSt.start h)
 have hpl:=PsE.place_le h
 have HPL:=hide (l2place_any (RSt.start h).ps)
 obtain⟨W0,hW0⟩:∃W,w.alloc (.cells #[.slice none 0 0,.slice none 0 0] 45)=W:=⟨_,rfl⟩
 rw[hW0]at HS0 HPL
 obtain⟨pl,hplE⟩:∃q,e.place p=q:=⟨_,rfl⟩
 rw[hplE]at hpl HPL
 have HU:Hid (rU e (f+1) p=(ptN ({ ndK 18 with n:=1 }) pl [],p.on)):=by
  show _=_
  rw[rU,if_neg (by rw[n0];exact Bool.false_ne_true),if_neg (by rw[n1];exact Bool.false_ne_true),if_neg (by rw[n2];exact Bool.false_ne_true),if_pos h1,hplE]
 clear h hplE
 go_enter Tryz.func66,Tryz.ntmps66
 go_wp2_with fail
 refine HPL.out.mono ?_
 rintro r V ⟨rfl,m0,rfl⟩
 have HS1:=hide (HS0.out.below (below_drewN (Below.refl _ _) m0))
 clear HPL hW0 HS0
 go_wp2_with fail
 refine (l2got_any (⟨#[33]⟩:ByteArray) HS1.out.ps).mono ?_
 rw[n0]
 rintro r V ⟨rfl,hq⟩
 have HSn0:=hide (HS1.out.rd hq)
 clear hq HS1
 rw[if_neg Bool.false_ne_true]at HSn0
 go_wp2_with fail
 refine (l2got_any (⟨#[45]⟩:ByteArray) HSn0.out.ps).mono ?_
 rw[n1]
 rintro r V ⟨rfl,hq⟩
 have HSn1:=hide (HSn0.out.rd hq)
 clear hq HSn0
 rw[if_neg Bool.false_ne_true]at HSn1
 go_wp2_with fail
 refine (l2got_any (⟨#[40]⟩:ByteArray) HSn1.out.ps).mono ?_
 rw[n2]
 rintro r V ⟨rfl,hq⟩
 have HSn2:=hide (HSn1.out.rd hq)
 clear hq HSn1
 rw[if_neg Bool.false_ne_true]at HSn2
 go_wp2_with fail
 refine (l2got_any (⟨#[116,114,117,101]⟩:ByteArray) HSn2.out.ps).mono ?_
 rw[h1]
 rintro r V ⟨rfl,hq⟩
 have HS2:=hide (HSn2.out.rd hq)
 clear hq HSn2
 rw[if_pos rfl]at HS2
 go_wp2_with fail
 refine (l2node_any (m:=⟨{ ndK 18 with n:=1 },.slice none 0 0,.slice none 0 0,.slice none 0 0⟩) (pl:=pl) (G:=fun g=>w.heap.size<g) (nv_plain _ _ 18 1) (pr_nil _ _) (fun g hg=>Nat.lt_of_lt_of_le HS2.out.size hg) (by rw[nsl_nil];omega) (by simp)).mono ?_
 rintro r V' ⟨vt,vp,rfl,hv,hb⟩
 have HF:=hide (HS2.out.below hb)
 obtain⟨ga,gc,gb,gd,rfl,rfl,_,_⟩:=hv.slc
 have HV:=hide hv
 have r0:=HF.out.res.cell 0
 have r1:=HF.out.res.cell 1
 have f0:=HF.out.res.frozen 0
 have f1:=HF.out.res.frozen 1
 simp only[List.getElem?_toArray,List.getElem?_cons_succ,List.getElem?_cons_zero]at r0 r1
 clear hv hb
 go_wp2_with fail
 refine bodyPost_ret (results_one rfl _ _ _ w.heap.size 45 _ (0,0) rfl ((HF.out.res.set 0 _).set 1 _) Tryz.underlying45 (by kernel_rfl)) rfl ?_
 rw[HU.out]
 exact HF.out.fin HV.out
set_option maxHeartbeats 4000000 in
set_option maxRecDepth 1000000 in
theorem unary_false {w:World}{c:PsC}{e:PsE}{p:Ps}{f:Nat}(h:PsW w c e p)(n0:e.is p (⟨#[33]⟩:ByteArray)=false)(n1:e.is p (⟨#[45]⟩:ByteArray)=false)(n2:e.is p (⟨#[40]⟩:ByteArray)=false)(n3:e.is p (⟨#[116,114,117,101]⟩:ByteArray)=false)(h1:e.is p (⟨#[102,97,108,115,101]⟩:ByteArray)=true):
 Calls Tryz.prog 66 #[.pointer (some ⟨c.P,0,none⟩)] w (ExQ c e w (rU e (f+1) p)):=by
 have HS0:=hide (RSt.start h)
 have hpl:=PsE.place_le h
 have HPL:=hide (l2place_any (RSt.start h).ps)
 obtain⟨W0,hW0⟩:∃W,w.alloc (.cells #[.slice none 0 0,.slice none 0 0] 45)=W:=⟨_,rfl⟩
 rw[hW0]at HS0 HPL
 obtain⟨pl,hplE⟩:∃q,e.place p=q:=⟨_,rfl⟩
 rw[hplE]at hpl HPL
 have HU:Hid (rU e (f+1) p=(ptN (ndK 18) pl [],p.on)):=by
  show _=_
  rw[rU,if_neg (by rw[n0];exact Bool.false_ne_true),if_neg (by rw[n1];exact Bool.false_ne_true),if_neg (by rw[n2];exact Bool.false_ne_true),if_neg (by rw[n3];exact Bool.false_ne_true),if_pos h1,hplE]
 clear h hplE
 go_enter Tryz.func66,Tryz.ntmps66
 go_wp2_with fail
 refine HPL.out.mono ?_
 rintro r V ⟨rfl,m0,rfl⟩
 have HS1:=hide (HS0.out.below (below_drewN (Below.refl _ _) m0))
 clear HPL hW0 HS0
 go_wp2_with fail
 refine (l2got_any (⟨#[33]⟩:ByteArray) HS1.out.ps).mono ?_
 rw[n0]
 rintro r V ⟨rfl,hq⟩
 have HSn0:=hide (HS1.out.rd hq)
 clear hq HS1
 rw[if_neg Bool.false_ne_true]at HSn0
 go_wp2_with fail
 refine (l2got_any (⟨#[45]⟩:ByteArray) HSn0.out.ps).mono ?_
 rw[n1]
 rintro r V ⟨rfl,hq⟩
 have HSn1:=hide (HSn0.out.rd hq)
 clear hq HSn0
 rw[if_neg Bool.false_ne_true]at HSn1
 go_wp2_with fail
 refine (l2got_any (⟨#[40]⟩:ByteArray) HSn1.out.ps).mono ?_
 rw[n2]
 rintro r V ⟨rfl,hq⟩
 have HSn2:=hide (HSn1.out.rd hq)
 clear hq HSn1
 rw[if_neg Bool.false_ne_true]at HSn2
 go_wp2_with fail
 refine (l2got_any (⟨#[116,114,117,101]⟩:ByteArray) HSn2.out.ps).mono ?_
 rw[n3]
 rintro r V ⟨rfl,hq⟩
 have HSn3:=hide (HSn2.out.rd hq)
 clear hq HSn2
 rw[if_neg Bool.false_ne_true]at HSn3
 go_wp2_with fail
 refine (l2got_any (⟨#[102,97,108,115,101]⟩:ByteArray) HSn3.out.ps).mono ?_
 rw[h1]
 rintro r V ⟨rfl,hq⟩
 have HS2:=hide (HSn3.out.rd hq)
 clear hq HSn3
 rw[if_pos rfl]at HS2
 go_wp2_with fail
 refine (l2node_any (m:=⟨ndK 18,.slice none 0 0,.slice none 0 0,.slice none 0 0⟩) (pl:=pl) (G:=fun g=>w.heap.size<g) (nv_plain _ _ 18 0) (pr_nil _ _) (fun g hg=>Nat.lt_of_lt_of_le HS2.out.size hg) (by rw[nsl_nil];omega) (by simp)).mono ?_
 rintro r V' ⟨vt,vp,rfl,hv,hb⟩
 have HF:=hide (HS2.out.below hb)
 obtain⟨ga,gc,gb,gd,rfl,rfl,_,_⟩:=hv.slc
 have HV:=hide hv
 have r0:=HF.out.res.cell 0
 have r1:=HF.out.res.cell 1
 have f0:=HF.out.res.frozen 0
 have f1:=HF.out.res.frozen 1
 simp only[List.getElem?_toArray,List.getElem?_cons_succ,List.getElem?_cons_zero]at r0 r1
 clear hv hb
 go_wp2_with fail
 refine bodyPost_ret (results_one rfl _ _ _ w.heap.size 45 _ (0,0) rfl ((HF.out.res.set 0 _).set 1 _) Tryz.underlying45 (by kernel_rfl)) rfl ?_
 rw[HU.out]
 exact HF.out.fin HV.out
end Go.Proofs.YtbiakdjpeblclaaGreatDoor

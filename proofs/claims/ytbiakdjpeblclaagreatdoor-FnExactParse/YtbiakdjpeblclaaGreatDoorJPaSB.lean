/-
  The walk of spec.l1blank.
-/
import Derived.Test.YtbiakdjpeblclaaGreatDoorJPaLX
import Derived.Test.YtbiakdjpeblclaaGreatDoorJPaDR0
import Derived.Test.YtbiakdjpeblclaaGreatDoorJPaQKR
import Derived.Test.YtbiakdjpeblclaaGreatDoorJPaQPL
import Derived.Test.YtbiakdjpeblclaaGreatDoorJPaT
import Derived.Test.YtbiakdjpeblclaaGreatDoorJPaIN2
import Derived.Laws.BytesArg
import Derived.ProofKit
import Derived.OpenShut
namespace Go.Proofs.YtbiakdjpeblclaaGreatDoor
open Go.RowKit
theorem bl_one {s:ByteArray}{p:Nat}(h:(s.get! p).toNat=32∨(s.get! p).toNat=9∨(s.get! p).toNat=13∨(s.get! p).toNat=10):bl s p=1:=by unfold bl;rw[if_pos h]
set_option maxHeartbeats 1000000 in
set_option maxRecDepth 1000000 in
theorem blank_any (b off cap p:Nat)(s:ByteArray)(w:World)(hs:s.size≤1048576)(hp:p<s.size)(hc:∀j,j<s.size→w.cell? ⟨b,off+j,none⟩=some (bts s j)):
 Calls Tryz.prog 33 #[.slice (some ⟨b,off,none⟩) s.size cap,.int .i64 p] w fun e w'=>e = .returned (.int .i64 (bl s p))∧w'=w:=by
 have HC:=hide hc
 have g0:w.cell? ⟨b,off+p,none⟩=some (.int .u8 ((s.get! p).toNat:Int)):=hc p hp
 have b0:(s.get! p).toNat<256:=(s.get! p).toNat_lt
 clear hc
 obtain⟨y,hy⟩:∃y:Nat,(s.get! p).toNat=y:=⟨_,rfl⟩
 by_cases hb:y=32∨y=9∨y=13∨y=10
 ·have HR:Hid (bl s p=1):=bl_one (by rw[hy];exact hb)
  rw[hy]at g0 b0
  clear hy
  rcases hb with rfl|rfl|rfl|rfl
  all_goals
   go_enter Tryz.func33,Tryz.ntmps33
   go_wp2
   go_ret
   exact⟨by rw[HR.out];rfl,rfl⟩
 have t1:((y:Int)==32)=false:=by rw[beq_eq_false_iff_ne];omega
 have t2:((y:Int)==9)=false:=by rw[beq_eq_false_iff_ne];omega
 have t3:((y:Int)==13)=false:=by rw[beq_eq_false_iff_ne];omega
 have t4:((y:Int)==10)=false:=by rw[beq_eq_false_iff_ne];omega
 by_cases h47:y=47
 ·by_cases h1:p+1<s.size
  ·have g1:w.cell? ⟨b,off+(p+1),none⟩=some (.int .u8 ((s.get! (p+1)).toNat:Int)):=HC.out (p+1) h1
   have b1:(s.get! (p+1)).toNat<256:=(s.get! (p+1)).toNat_lt
   obtain⟨z,hz⟩:∃z:Nat,(s.get! (p+1)).toNat=z:=⟨_,rfl⟩
   have HBL:Hid (bl s p=if z=47 then ((2+ln s (p+2):Nat):Int) else if z≠42 then 0 else bcl p (bc s (p+2) s.size)):=by
    show _=_
    unfold bl
    rw[hy,hz,if_neg hb,if_neg (by omega)]
   rw[hy]at g0 b0
   rw[hz]at g1 b1
   have t5:((y:Int) != 47)=false:=by rw[bne_eq_false_iff_eq];omega
   have t6:decide ((s.size:Int)≤(p:Int)+1)=false:=decide_eq_false (by omega)
   clear hy hz hb h47
   by_cases hz47:z=47
   ·have t7:((z:Int)==47)=true:=by rw[beq_iff_eq];omega
    have HB2:Hid (bl s p=((2+ln s (p+2):Nat):Int)):=by show _=_;rw[HBL.out,if_pos hz47]
    clear hz47 HBL
    go_enter Tryz.func33,Tryz.ntmps33
    go_wp2
    go_loopw [6] (fun ix wr=>∃n:Nat,ix = .int .i64 (2+n:Nat)∧p+2+n≤s.size∧(∀j,j<n→((s.get! (p+2+j)).toNat != 10)=true)∧wr=w) (fun ix _=>s.size - (intOf ix).toNat)
    case atStart=>exact⟨0,rfl,by omega,fun j hj=>absurd hj (Nat.not_lt_zero _),rfl⟩
    case round=>
     obtain⟨n,rfl,hn,hall,rfl⟩:=hrel
     have HALL:=hide hall
     clear hall
     obtain⟨M,hM⟩:∃M:Nat,2+n=M:=⟨_,rfl⟩
     have HM:=hide hM
     rw[hM]
     have hpM:p+M≤s.size:=by omega
     by_cases hlt:p+M<s.size
     ·have u0:decide ((p:Int)+(M:Int)<(s.size:Int))=true:=decide_eq_true (by omega)
      have g2:wr.cell? ⟨b,off+(p+M),none⟩=some (.int .u8 ((s.get! (p+M)).toNat:Int)):=HC.out (p+M) hlt
      have b2:(s.get! (p+M)).toNat<256:=(s.get! (p+M)).toNat_lt
      obtain⟨x,hx⟩:∃x:Nat,(s.get! (p+M)).toNat=x:=⟨_,rfl⟩
      have HX:=hide hx
      rw[hx]at g2 b2
      clear hx hM
      by_cases h10:x=10
      ·have u1:((x:Int) != 10)=false:=by rw[bne_eq_false_iff_eq];omega
       have HR:Hid (bl s p=(M:Int)):=by
        show _=_
        have e:=HM.out
        have hl:ln s (p+2)=n:=cw_is hn HALL.out (fun g=>by
         rw[show p+2+n=p+M by omega,HX.out,h10]at g
         exact absurd g.2 (by decide))
        rw[HB2.out,hl,e]
       clear h10
       go_wp2
       go_ret
       exact⟨by rw[HR.out];rfl,by first|rfl|trivial⟩
      ·have u1:((x:Int) != 10)=true:=by rw[bne_iff_ne];omega
       go_wp2
       go_roundw
       case rel=>
        have e:=HM.out
        exact⟨n+1,by go_num,by omega,fun j hj=>by
         by_cases e2:j=n
         ·rw[e2,show p+2+n=p+M by omega,HX.out,bne_iff_ne];exact h10
         ·exact HALL.out j (by omega),by first|rfl|trivial⟩
       case measure=>simp[intOf];omega
     ·have u0:decide ((p:Int)+(M:Int)<(s.size:Int))=false:=decide_eq_false (by omega)
      have HR:Hid (bl s p=(M:Int)):=by
       show _=_
       have e:=HM.out
       have hl:ln s (p+2)=n:=cw_is hn HALL.out (fun g=>by omega)
       rw[HB2.out,hl,e]
      clear hM
      go_wp2
      go_ret
      exact⟨by rw[HR.out];rfl,by first|rfl|trivial⟩
   ·have t7:((z:Int)==47)=false:=by rw[beq_eq_false_iff_ne];omega
    by_cases hz42:z=42
    ·have t8:((z:Int) != 42)=false:=by rw[bne_eq_false_iff_eq];omega
     have HB2:Hid (bl s p=bcl p (bc s (p+2) s.size)):=by show _=_;rw[HBL.out,if_neg hz47,if_neg (fun g=>g hz42)]
     clear hz47 hz42 HBL
     go_enter Tryz.func33,Tryz.ntmps33
     go_wp2
     go_loopw [6] (fun ix wr=>∃n:Nat,ix = .int .i64 (2+n:Nat)∧p+2+n≤s.size∧(∀j,j<n→¬((s.get! (p+2+j)).toNat=42∧(s.get! (p+2+j+1)).toNat=47))∧wr=w) (fun ix _=>s.size - (intOf ix).toNat)
     case atStart=>exact⟨0,rfl,by omega,fun j hj=>absurd hj (Nat.not_lt_zero _),rfl⟩
     case round=>
      obtain⟨n,rfl,hn,hall,rfl⟩:=hrel
      have HALL:=hide hall
      clear hall
      obtain⟨M,hM⟩:∃M:Nat,2+n=M:=⟨_,rfl⟩
      have HM:=hide hM
      rw[hM]
      have hpM:p+M≤s.size:=by omega
      by_cases hlt:p+M+1<s.size
      ·have u0:decide ((p:Int)+(M:Int)+1<(s.size:Int))=true:=decide_eq_true (by omega)
       have g2:wr.cell? ⟨b,off+(p+M),none⟩=some (.int .u8 ((s.get! (p+M)).toNat:Int)):=HC.out (p+M) (by omega)
       have b2:(s.get! (p+M)).toNat<256:=(s.get! (p+M)).toNat_lt
       have g3:wr.cell? ⟨b,off+(p+M+1),none⟩=some (.int .u8 ((s.get! (p+M+1)).toNat:Int)):=HC.out (p+M+1) hlt
       have b3:(s.get! (p+M+1)).toNat<256:=(s.get! (p+M+1)).toNat_lt
       obtain⟨x,hx⟩:∃x:Nat,(s.get! (p+M)).toNat=x:=⟨_,rfl⟩
       obtain⟨x2,hx2⟩:∃x2:Nat,(s.get! (p+M+1)).toNat=x2:=⟨_,rfl⟩
       have HX:=hide hx
       have HX2:=hide hx2
       rw[hx]at g2 b2
       rw[hx2]at g3 b3
       clear hx hx2 hM
       have HGO:Hid (¬(x=42∧x2=47)→∀j,j<n+1→¬((s.get! (p+2+j)).toNat=42∧(s.get! (p+2+j+1)).toNat=47)):=fun hne j hj=>by
        have e:=HM.out
        by_cases e2:j=n
        ·rw[e2,show p+2+n=p+M by omega,HX.out,HX2.out];exact hne
        ·exact HALL.out j (by omega)
       by_cases h42:x=42
       ·have u1:((x:Int)==42)=true:=by rw[beq_iff_eq];omega
        by_cases h47':x2=47
        ·have u2:((x2:Int)==47)=true:=by rw[beq_iff_eq];omega
         have HR:Hid (bl s p=((M+2:Nat):Int)):=by
          show _=_
          have e:=HM.out
          have hl:bc s (p+2) s.size=some (p+2+n):=bc_hit s s.size (p+2) n (by omega) (by omega) HALL.out (by rw[show p+2+n=p+M by omega,HX.out];exact h42) (by rw[show p+2+n=p+M by omega,HX2.out];exact h47')
          rw[HB2.out,hl]
          show ((p+2+n - p+2:Nat):Int)=_
          omega
         clear h42 h47' HGO
         go_wp2
         go_ret
         exact⟨by rw[HR.out];rfl,by first|rfl|trivial⟩
        ·have u2:((x2:Int)==47)=false:=by rw[beq_eq_false_iff_ne];omega
         have HG:=hide (HGO.out (fun g=>h47' g.2))
         clear h42 h47' HGO
         go_wp2
         go_roundw
         case rel=>exact⟨n+1,by have e:=HM.out;go_num,by have e:=HM.out;omega,HG.out,by first|rfl|trivial⟩
         case measure=>simp[intOf];omega
       ·have u1:((x:Int)==42)=false:=by rw[beq_eq_false_iff_ne];omega
        have HG:=hide (HGO.out (fun g=>h42 g.1))
        clear h42 HGO
        go_wp2
        go_roundw
        case rel=>exact⟨n+1,by have e:=HM.out;go_num,by have e:=HM.out;omega,HG.out,by first|rfl|trivial⟩
        case measure=>simp[intOf];omega
      ·have u0:decide ((p:Int)+(M:Int)+1<(s.size:Int))=false:=decide_eq_false (by omega)
       have HR:Hid (bl s p = -1):=by
        show _=_
        have e:=HM.out
        have hl:bc s (p+2) s.size=none:=bc_miss s s.size (p+2) (fun j hj=>HALL.out j (by omega))
        rw[HB2.out,hl];rfl
       clear hM
       go_wp2
       go_ret
       exact⟨by rw[HR.out];rfl,by first|rfl|trivial⟩
    ·have t8:((z:Int) != 42)=true:=by rw[bne_iff_ne];omega
     have HR:Hid (bl s p=0):=by show _=_;rw[HBL.out,if_neg hz47,if_pos hz42]
     clear hz47 hz42 HBL
     go_enter Tryz.func33,Tryz.ntmps33
     go_wp2
     go_ret
     exact⟨by rw[HR.out];rfl,rfl⟩
  ·have t5:((y:Int) != 47)=false:=by rw[bne_eq_false_iff_eq];omega
   have t6:decide ((s.size:Int)≤(p:Int)+1)=true:=decide_eq_true (by omega)
   have HR:Hid (bl s p=0):=by show _=_;unfold bl;rw[hy,if_neg hb,if_pos (.inr (by omega))]
   rw[hy]at g0 b0
   clear hy hb h47
   go_enter Tryz.func33,Tryz.ntmps33
   go_wp2
   go_ret
   exact⟨by rw[HR.out];rfl,rfl⟩
 ·have t5:((y:Int) != 47)=true:=by rw[bne_iff_ne];omega
  have HR:Hid (bl s p=0):=by show _=_;unfold bl;rw[hy,if_neg hb,if_pos (.inl h47)]
  rw[hy]at g0 b0
  clear hy hb h47
  go_enter Tryz.func33,Tryz.ntmps33
  go_wp2
  go_ret
  exact⟨by rw[HR.out];rfl,rfl⟩
set_option maxHeartbeats 1000000 in
set_option maxRecDepth 1000000 in
theorem specLex_big (b off cap:Nat)(s:ByteArray)(w:World)(h:5000<s.size):
 Calls Tryz.prog 15 #[.slice (some ⟨b,off,none⟩) s.size cap] w fun e w'=>LexGives w w' e (lexed s):=by
 have HR:Hid (lexed s=([],4,5000)):=by show _=_;unfold lexed;rw[if_pos h]
 have t0:decide ((5000:Int)<(s.size:Int))=true:=decide_eq_true (by omega)
 clear h
 go_enter Tryz.func15,Tryz.ntmps15
 go_wp2
 go_ret3
 exact lexGives_nil HR.out (Below.refl _ _)
set_option maxHeartbeats 1000000 in
set_option maxRecDepth 1000000 in
theorem specLex_bad (b off cap:Nat)(s:ByteArray)(w:World)(hs:s.size≤5000)(hc:∀j,j<s.size→w.cell? ⟨b,off+j,none⟩=some (bts s j))(hg:(chk s).1≠0):
 Calls Tryz.prog 15 #[.slice (some ⟨b,off,none⟩) s.size cap] w fun e w'=>LexGives w w' e (lexed s):=by
 have H:=specCheck_any b off cap s w (by omega) hc
 obtain⟨A,D,hAD⟩:∃A D,chk s=(A,D):=⟨_,_,rfl⟩
 rw[pairVal_of hAD]at H
 have H':=hide H
 have HR:Hid (lexed s=([],A,D)):=by show _=_;unfold lexed;rw[if_neg (by omega),if_neg hg,hAD]
 rw[hAD]at hg
 have t1:((A:Int) != 0)=true:=by rw[bne_iff_ne];simp only at hg;omega
 have t0:decide ((5000:Int)<(s.size:Int))=false:=decide_eq_false (by omega)
 clear hc H hAD hg
 go_enter Tryz.func15,Tryz.ntmps15
 go_wp2_with fail
 refine H'.out.mono ?_
 rintro e w1 ⟨rfl,hb⟩
 have HB:=hide hb
 clear hb
 go_wp2
 go_ret3
 exact lexGives_nil HR.out HB.out
set_option maxHeartbeats 1000000 in
set_option maxRecDepth 1000000 in
theorem specLex_good (b off cap:Nat)(s:ByteArray)(w:World)(hs:s.size≤5000)(hcap:s.size≤cap)(hc:∀j,j<s.size→w.cell? ⟨b,off+j,none⟩=some (bts s j))(hg:(chk s).1=0):
 Calls Tryz.prog 15 #[.slice (some ⟨b,off,none⟩) s.size cap] w fun e w'=>LexGives w w' e (lexed s):=by
 have H:=specCheck_any b off cap s w (by omega) hc
 obtain⟨A,D,hAD⟩:∃A D,chk s=(A,D):=⟨_,_,rfl⟩
 rw[pairVal_of hAD]at H
 have H':=hide H
 have HR:Hid (lexed s=lex s (s.size+1) 0 []):=by show _=_;unfold lexed;rw[if_neg (by omega),if_pos hg]
 rw[hAD]at hg
 have t1:((A:Int) != 0)=false:=by rw[bne_eq_false_iff_eq];simp only at hg;omega
 have t0:decide ((5000:Int)<(s.size:Int))=false:=decide_eq_false (by omega)
 have HC:=hide hc
 obtain⟨L,hL⟩:∃L,lexed s=L:=⟨_,rfl⟩
 have HL:Hid (lex s (s.size+1) 0 []=L):=by show _=_;rw[← HR.out];exact hL
 rw[hL]
 clear hc H hAD hg HR hL
 go_enter Tryz.func15,Tryz.ntmps15
 go_wp2_with fail
 refine H'.out.mono ?_
 rintro e w1 ⟨rfl,hb⟩
 have HB:=hide hb
 have hsz:=hb.size
 clear hb
 go_wp2
 go_loopw [7,8] (fun out ix wr=>∃(i f:Nat) (acc:List (Nat × Nat × Nat)),ix = .int .i64 i∧i≤s.size∧s.size<i+f∧lex s f i acc=L∧acc.length≤i∧wr.ownsRow w.heap.size 73 3 out acc.length (tcv acc)∧Below w.heap.size w wr) (fun _ ix _=>s.size - (intOf ix).toNat)
 case atStart=>exact⟨0,s.size+1,[],rfl,Nat.zero_le _,by omega,HL.out,by simp,World.ownsRow_nil _ _ _ _,HB.out⟩
 case round=>
  obtain⟨i,f,acc,rfl,hi,hf,hk,hal,hown,hbl⟩:=hrel
  have HOWN:=hide hown
  have HBL:=hide hbl
  have HBs:=hide hbl.size
  by_cases hlt:i<s.size
  ·have d1:decide ((i:Int)<(s.size:Int))=true:=decide_eq_true (by omega)
   obtain⟨g,hfg,hst⟩:=lex_step (acc:=acc) hf hlt
   have HBLK:=blank_any b off cap i s wr (by omega) hlt (fun j hj=>by rw[hbl.cell (p:=⟨b,off+j,none⟩) (World.block_lt_of_cell? _ _ (HC.out j hj))];exact HC.out j hj)
   have HTOK:=tok_any b off cap i s wr (by omega) hcap hlt (fun j hj=>by rw[hbl.cell (p:=⟨b,off+j,none⟩) (World.block_lt_of_cell? _ _ (HC.out j hj))];exact HC.out j hj)
   have hble:=bl_le s i hlt
   have htle:=tok_le s i hlt
   rw[hk]at hst
   have HST:=hide hst
   obtain⟨B,hB⟩:∃B,bl s i=B:=⟨_,rfl⟩
   obtain⟨K,M,hKM⟩:∃K M,tok s i=(K,M):=⟨_,_,rfl⟩
   rw[hB]at HBLK hble HST
   rw[two2_of hKM]at HTOK
   rw[hKM]at htle HST
   simp only at htle
   have HBLK':=hide HBLK
   have HTOK':=hide HTOK
   have hfg':f≤g+1:=by omega
   clear hk hown hbl hst HBLK HTOK hB hKM hfg
   by_cases hpos:0<B
   ·obtain⟨n,hn⟩:∃n:Nat,B=(n:Int):=⟨B.toNat,by omega⟩
    have HS:Hid (lex s g (i+n) acc=L):=by show _=_;rw[HST.out,if_pos hpos,hn,Int.toNat_natCast]
    subst hn
    have u1:decide ((0:Int)<(n:Int))=true:=decide_eq_true hpos
    have hn1:1≤n:=by omega
    have hin:i+n≤s.size:=by omega
    clear hpos hble HST
    go_wp2_with fail
    refine HBLK'.out.mono ?_
    rintro e w' ⟨rfl,rfl⟩
    go_wp2
    go_roundw
    case rel=>exact⟨i+n,g,acc,by go_num,hin,by omega,HS.out,by omega,HOWN.out,HBL.out⟩
    case measure=>simp[intOf];omega
   ·have u1:decide ((0:Int)<B)=false:=decide_eq_false hpos
    by_cases hneg:B<0
    ·have u2:decide (B<0)=true:=decide_eq_true hneg
     have HS:Hid (L=([],2,i)):=by show _=_;rw[HST.out,if_neg hpos,if_pos hneg]
     clear hpos hneg HST
     go_wp2_with fail
     refine HBLK'.out.mono ?_
     rintro e w' ⟨rfl,rfl⟩
     go_wp2
     go_ret3
     exact lexGives_nil HS.out HBL.out
    ·have u2:decide (B<0)=false:=decide_eq_false hneg
     by_cases hM:M=0
     ·have u3:((M:Int)==0)=true:=by rw[beq_iff_eq];omega
      have HS:Hid (L=([],2,i)):=by show _=_;rw[HST.out,if_neg hpos,if_neg hneg,if_pos hM]
      clear hpos hneg HST hM
      go_wp2_with fail
      refine HBLK'.out.mono ?_
      rintro e w' ⟨rfl,rfl⟩
      go_wp2_with fail
      refine HTOK'.out.mono ?_
      rintro e w2 ⟨rfl,hb2⟩
      have HB2:=hide (HBL.out.trans (hb2.mono HBs.out))
      clear hb2
      go_wp2
      go_ret3
      exact lexGives_nil HS.out HB2.out
     ·have u3:((M:Int)==0)=false:=by rw[beq_eq_false_iff_ne];omega
      have HS:Hid (lex s g (i+M) (acc++[(K,i,M)])=L):=by show _=_;rw[HST.out,if_neg hpos,if_neg hneg,if_neg hM]
      have hM1:1≤M:=by omega
      clear hpos hneg HST hM
      go_wp2_with fail
      refine HBLK'.out.mono ?_
      rintro e w' ⟨rfl,rfl⟩
      go_wp2_with fail
      refine HTOK'.out.mono ?_
      rintro e w2 ⟨rfl,hb2⟩
      have HB2:=hide (HBL.out.trans (hb2.mono HBs.out))
      have HO2:=hide (own_below HOWN.out hb2)
      clear hb2
      go_wp2_with (at_builtin;refine wp_tok rfl (.tmp 48) (.tmp 53) rfl w.heap.size _ acc rfl (HO2.out.alloc _) w2.heap.size 1 (K,i,M) rfl ?n1 ?l1 ?b1 ?_)
      case n1=>
       intro j u hj
       refine (cell_fresh w2 #[.int .i64 K,.int .i64 i,.int .i64 M] 73 j).trans ?_
       rw[← hj,← Array.getElem?_toList];rfl
      case l1=>omega
      case b1=>(have:=HB2.out.size;simp;omega)
      intro v' w3 l hl ho hg
      have e1:l.length=acc.length+1:=by rw[hl.out];simp
      have HB3:Hid (Below w.heap.size w w3):=tok_below (HB2.out.alloc HB2.out.size _) (HO2.out.alloc _) (by have:=HB2.out.size;simp;omega) hg
      have HO3:=hide ho
      clear ho hg
      go_wp2
      go_roundw
      case rel=>exact⟨i+M,g,l,by go_num,htle,by omega,by rw[hl.out];exact HS.out,by omega,HO3.out,HB3.out⟩
      case measure=>simp[intOf];omega
  ·have d1:decide ((i:Int)<(s.size:Int))=false:=decide_eq_false (by omega)
   have HS:Hid (L=(acc,0,0)):=by show _=_;rw[← hk,lex_end hlt]
   clear hk hown hbl
   go_wp2
   go_ret3
   exact⟨_,by rw[HS.out];rfl,by rw[HS.out];exact HOWN.out,HBL.out⟩
theorem specLex_any (b off cap:Nat)(s:ByteArray)(w:World)(hcap:s.size≤cap)(hc:∀j,j<s.size→w.cell? ⟨b,off+j,none⟩=some (bts s j)):
 Calls Tryz.prog 15 #[.slice (some ⟨b,off,none⟩) s.size cap] w fun e w'=>LexGives w w' e (lexed s):=by
 by_cases h:5000<s.size
 ·exact specLex_big b off cap s w h
 ·by_cases hg:(chk s).1=0
  ·exact specLex_good b off cap s w (by omega) hcap hc hg
  ·exact specLex_bad b off cap s w (by omega) hc hg
theorem rowC {w w':World}{b n:Nat}{f:Nat→Value}(h:w.rowIs b 5 n f)(hb:Below w.heap.size w w'):∀j,j<n→w'.cell? ⟨b,0+j,none⟩=some (f j):=fun j hj=>by
 rw[hb.cell (p:=⟨b,0+j,none⟩) h.lt,Nat.zero_add];exact h.cell hj
set_option maxHeartbeats 400000 in
set_option maxRecDepth 1000000 in
theorem lawPa_big (a0:Option Addr)(len cap:Nat)(w:World)(h:1048576<(len:Int)):
 Calls Tryz.prog 3 #[.slice a0 len cap] w fun e w'=>e = .returned (.bool true)∧Below w.heap.size w w':=by
 go_enter Tryz.func3,Tryz.ntmps3
 go_wp2
 go_ret
 exact⟨rfl,Below.refl _ _⟩
set_option maxHeartbeats 2000000 in
set_option maxRecDepth 1000000 in
theorem lawPa (a0:Option Addr)(b off cap:Nat)(s:ByteArray)(w:World)(hs:s.size≤1048576)(hT:TabQ w)(hET:w.cell? ⟨0,0,none⟩=some (.iface 121 (.agg #[.pointer (some ⟨13,56,none⟩)])))(ha:0<s.size→a0=some ⟨b,off,none⟩)
 (hc:∀j,j<s.size→w.cell? ⟨b,off+j,none⟩=some (bts s j)):
 Calls Tryz.prog 3 #[.slice a0 s.size cap] w fun e w'=>e = .returned (.bool true)∧Below w.heap.size w w':=by
 have HTO:=hide (fun w2 (hb2:Below w.heap.size w w2)=>toB_any a0 b off cap s w2 hs ha (fun j hj=>cell_kept (hc j hj) hb2))
 have HSP:=hide (fun g w2 (h2:∀j,j<s.size→w2.cell? ⟨g,0+j,none⟩=some (bts s j))=>specParse_gen (a0:=some ⟨g,0,none⟩) (Nat.le_refl s.size) (fun _=>rfl) h2 (specLex_any g 0 s.size s w2 (Nat.le_refl _) h2))
 have HIP:=hide (fun g w2 (hb2:Below w.heap.size w w2) (h2:∀j,j<s.size→w2.cell? ⟨g,0+j,none⟩=some (bts s j))=>implParse_any g 0 s.size s w2 (hT.below hb2) (cell_kept hET hb2) h2)
 have hln:=psA_len s
 have hlt:((s.size:Int) > 1048576)=False:=by simp;omega
 obtain⟨⟨⟨L,P⟩,K,A⟩,hA⟩:∃x,psA s=x:=⟨_,rfl⟩
 simp only[hA]at HSP HIP hln
 obtain⟨hL5,hP5⟩:=hln
 have hKK:(K != K)=false:=by simp
 have hAA:(A != A)=false:=by simp
 clear hT hET hA ha hc
 go_enter Tryz.func3,Tryz.ntmps3
 go_wp2_with fail
 refine (HTO.out _ (Below.refl _ _)).mono ?_
 rintro e w1 ⟨rfl,hr1,hb1,_⟩
 have HR1:=hide (rowC hr1 (Below.refl _ _))
 have HB1:=hide hb1
 clear hr1 hb1
 go_wp2_with fail
 refine (HSP.out _ _ HR1.out).mono ?_
 rintro e w2 ⟨vt2,vp2,rfl,hng,hrw,hb2⟩
 replace hng:NG w2 _ vt2 L:=hng
 replace hrw:RwG w2 _ vp2 P.length (plv P):=hrw
 have HNB:=hide hng.ns.2
 have HS2:=hide hng.ns.1
 have HI2:=hide (is_plv hrw)
 have HB2:Hid (Below w.heap.size w w2):=HB1.out.trans (hb2.mono HB1.out.size)
 have HW:Hid (∀ {W:World},Below w2.heap.size w2 W→Below w.heap.size w W):=fun h=>HB2.out.trans (h.mono HB2.out.size)
 have HEN:=hide (fun (W:World) (v:Value) (hW:Below w2.heap.size w2 W) (h1:NS W v L)=>eqNS_same (by omega) HNB.out h1 (HS2.out.below hW))
 have HEI:=hide (fun (W:World) (v:Value) (hW:Below w2.heap.size w2 W) (h1:IS W v (nti P))=>eqI_same (by rw[nti_len];omega) h1 (HI2.out.blw hW))
 clear hng hrw hb2 HSP HS2 HI2
 go_wp2_with fail
 refine (HTO.out _ HB2.out).mono ?_
 rintro e w3 ⟨rfl,hr3,hb3,hz3⟩
 have HR3:=hide hr3
 have HK3:=hide hb3
 have HZ3:=hide hz3
 clear hr3 hb3 hz3
 go_wp2_with fail
 refine (HIP.out _ _ (HW.out HK3.out) (rowC HR3.out (Below.refl _ _))).mono ?_
 rintro e w4 ⟨vt,vp,M,B0,rfl,hB0,hM,⟨Gs,d1,s1,e1⟩,ho1,ho2,hb4⟩
 replace hM:M.map Nv.d=L:=hM
 have HI4:Hid (ImR w4 w3.heap.size vt vp M P):=⟨B0,Gs,hB0,d1,s1,e1,ho1,ho2⟩
 have HML:=hide hM
 have hMl:M.length=L.length:=by rw[← hM,List.length_map]
 have HOK:Hid (∀m∈M,∃w G,m.Ok w G):=fun m hm=>by obtain⟨G,h⟩:=HI4.out.bnd m hm;exact⟨_,G,h⟩
 have HCN:=hide (cN_all HOK.out M.length)
 have HK4:Hid (Below w2.heap.size w2 w4):=HK3.out.trans (hb4.mono HK3.out.size)
 have HX4:=hide (rowC HR3.out hb4)
 have HF4:Hid (∀j,w4.frozen? ⟨w2.heap.size,j,none⟩=false):=fun j=>by
  rw[hb4.frozen (p:=⟨w2.heap.size,j,none⟩) HR3.out.lt];exact HR3.out.frozen j
 have HZ4:Hid (w2.heap.size<w4.heap.size):=by have:=hb4.size;have:=HZ3.out;show _<_;omega
 clear hB0 hM d1 s1 e1 ho1 ho2 hb4
 go_wp2_with fail
 refine (HEN.out _ _ HK4.out (by rw[← HML.out];exact HI4.out.ns)).mono ?_
 rintro e w5 ⟨rfl,hb5⟩
 have HK5:Hid (Below w2.heap.size w2 w5):=HK4.out.trans (hb5.mono HK4.out.size)
 have HI5:=hide (HI4.out.blw hb5)
 have H45:=hide hb5
 clear hb5
 go_wp2_with fail
 refine (HEI.out _ _ HK5.out HI5.out.is).mono ?_
 rintro e w6 ⟨rfl,hb6⟩
 have HK6:Hid (Below w2.heap.size w2 w6):=HK5.out.trans (hb6.mono HK5.out.size)
 have HI6:=hide (HI5.out.blw hb6)
 have H46:Hid (Below w4.heap.size w4 w6):=H45.out.trans (hb6.mono H45.out.size)
 clear hb6 HI4 HI5 H45 HK4 HK5
 go_wp2_with fail
 refine (HTO.out _ (HW.out HK6.out)).mono ?_
 rintro e w7 ⟨rfl,hr7,hb7,_⟩
 have HR7:=hide (rowC hr7 (Below.refl _ _))
 have HK7:Hid (Below w2.heap.size w2 w7):=HK6.out.trans (hb7.mono HK6.out.size)
 have HI7:=hide (HI6.out.blw hb7)
 have H47:Hid (Below w4.heap.size w4 w7):=H46.out.trans (hb7.mono H46.out.size)
 have HX7:Hid (∀j,j<s.size→w7.cell? ⟨w2.heap.size,0+j,none⟩=some (bts s j)):=fun j hj=>cell_kept (HX4.out j hj) H47.out
 have HF7:Hid (∀j,w7.frozen? ⟨w2.heap.size,j,none⟩=false):=fun j=>by
  rw[H47.out.frozen (p:=⟨w2.heap.size,j,none⟩) HZ4.out];exact HF4.out j
 clear hr7 hb7 HI6 HK6
 go_wp2_with fail
 have H8:=eqB_any (some ⟨w2.heap.size,0,none⟩) (some ⟨w6.heap.size,0,none⟩) w2.heap.size 0 s.size w6.heap.size 0 s.size s s w7 hs hs (fun _=>rfl) (fun _=>rfl) HX7.out HR7.out
 rw[decide_eq_true (rfl:s=s)]at H8
 refine H8.mono ?_
 clear H8
 rintro e w8 ⟨rfl,n8,hw8⟩
 have hb8:Below w7.heap.size w7 w8:=by rw[hw8];exact below_drewN (Below.refl _ _) n8
 have HK8:Hid (Below w2.heap.size w2 w8):=HK7.out.trans (hb8.mono HK7.out.size)
 have HI8:=hide (HI7.out.blw hb8)
 have HX8:Hid (∀j,j<s.size→∃v,w8.cell? ⟨w2.heap.size,0+j,none⟩=some v):=fun j hj=>⟨_,cell_kept (HX7.out j hj) hb8⟩
 have HF8:Hid (∀j,j<s.size→w8.frozen? ⟨w2.heap.size,0+j,none⟩=false):=fun j _=>by rw[hw8];exact HF7.out _
 clear hw8 hb8 HI7 HK7 HX7 HF7 HR7 H47 H46
 go_wp2_with fail
 refine (markB_w (some ⟨w2.heap.size,0,none⟩) w2.heap.size 0 s.size s.size 1 w8 (by omega) (by omega) (fun _=>rfl) HX8.out HF8.out).mono ?_
 rintro e w9 ⟨rfl,hon,_⟩
 have HK9:Hid (Below w2.heap.size w2 w9):=HK8.out.trans (hon.below (Nat.le_refl _))
 have HI9:=hide (HI8.out.gw (P:=(· = w2.heap.size)) ⟨hon.os,hon.tape,hon.output,by rw[hon.size];exact Nat.le_refl _,fun g _ hn=>hon.blk g hn⟩ (fun k hk=>by have:=HZ3.out;omega))
 have hk9:decide (((1+s.size:Nat):Int)<0)=false:=decide_eq_false (by omega)
 have hk9':decide ((1:Int)+(s.size:Int)<0)=false:=decide_eq_false (by omega)
 clear hon HX8 HF8 HI8 HK8 HX4 HF4
 go_wp2_with fail
 refine (HEN.out _ _ HK9.out (by rw[← HML.out];exact HI9.out.ns)).mono ?_
 rintro e wa ⟨rfl,hba⟩
 have HKa:Hid (Below w2.heap.size w2 wa):=HK9.out.trans (hba.mono HK9.out.size)
 have HIa:=hide (HI9.out.blw hba)
 clear hba
 go_wp2_with fail
 refine (HEI.out _ _ HKa.out HIa.out.is).mono ?_
 rintro e wb ⟨rfl,hbb⟩
 have HKb:Hid (Below w2.heap.size w2 wb):=HKa.out.trans (hbb.mono HKa.out.size)
 have HIb:=hide (HIa.out.blw hbb)
 clear hbb HIa HI9 HKa HK9
 go_wp2_with fail
 refine (markNS_i HIb.out (by omega)).mono ?_
 rintro e wc ⟨rfl,⟨B1,b1,G1,hmi⟩,hgc⟩
 have HMI:=hide hmi
 have HKc:Hid (Below w2.heap.size w2 wc):=hgc.below HKb.out HKb.out.size (fun k hk q=>by have:=HZ3.out;omega)
 clear hmi hgc HIb HKb
 have HCI:=hide (markI_i HMI.out (by omega) (by omega) HCN.out)
 have HCH:=hide (fun W (hW:HdR W vt vp M P)=>heldNS_i hW (by omega) HOK.out)
 have HCJ:=hide (fun W (hW:HdR W vt vp M P)=>heldI_i hW (by omega) (by omega) HOK.out)
 have hcn:=HCN.out
 obtain⟨C,hC⟩:∃C,1+cN M M.length=C:=⟨_,rfl⟩
 simp only[hC]at HCI HCH HCJ
 rw[hC]
 obtain⟨D,hD⟩:∃D,C+P.length=D:=⟨_,rfl⟩
 simp only[hD]at HCI HCJ
 have q1:decide ((C:Int)<0)=false:=decide_eq_false (by omega)
 have q2:decide ((D:Int)<0)=false:=decide_eq_false (by omega)
 have q3:((D:Int) != (D:Int))=false:=by simp
 clear hC hD hcn
 go_wp2_with fail
 refine HCI.out.mono ?_
 rintro e wd ⟨rfl,hhd,hgd⟩
 have HHD:=hide hhd
 have HKd:Hid (Below w2.heap.size w2 wd):=hgd.below HKc.out HKc.out.size (fun k hk q=>by have:=HZ3.out;omega)
 clear hhd hgd HCI HMI HKc
 go_wp2_with fail
 refine (HCH.out _ HHD.out).mono ?_
 rintro e wd' ⟨rfl,hwd⟩
 subst hwd
 go_wp2_with fail
 refine (HCJ.out _ HHD.out).mono ?_
 rintro e wd2 ⟨rfl,hwd⟩
 subst hwd
 go_wp2_with fail
 refine (HTO.out _ (HW.out HKd.out)).mono ?_
 rintro e we ⟨rfl,hre,hbe,_⟩
 have HRe:=hide (rowC hre (Below.refl _ _))
 have HKe:Hid (Below w2.heap.size w2 we):=HKd.out.trans (hbe.mono HKd.out.size)
 have HHe:=hide (HHD.out.blw hbe)
 clear hre hbe HHD HKd
 go_wp2_with fail
 refine (HIP.out _ _ (HW.out HKe.out) HRe.out).mono ?_
 rintro e wf ⟨vt',vp',M',B0',rfl,hB0,hM,⟨Gs,d1,s1,e1⟩,ho1,ho2,hbf⟩
 replace hM:M'.map Nv.d=L:=hM
 have HIf:Hid (ImR wf we.heap.size vt' vp' M' P):=⟨B0',Gs,hB0,d1,s1,e1,ho1,ho2⟩
 have HMf:=hide hM
 have HKf:Hid (Below w2.heap.size w2 wf):=HKe.out.trans (hbf.mono HKe.out.size)
 have HHf:=hide (HHe.out.blw hbf)
 clear hB0 hM d1 s1 e1 ho1 ho2 hbf HHe HKe
 go_wp2_with fail
 refine (HEN.out _ _ HKf.out (by rw[← HMf.out];exact HIf.out.ns)).mono ?_
 rintro e wg ⟨rfl,hbg⟩
 have HKg:Hid (Below w2.heap.size w2 wg):=HKf.out.trans (hbg.mono HKf.out.size)
 have HIg:=hide (HIf.out.blw hbg)
 have HHg:=hide (HHf.out.blw hbg)
 clear hbg HIf HHf
 go_wp2_with fail
 refine (HEI.out _ _ HKg.out HIg.out.is).mono ?_
 rintro e wh ⟨rfl,hbh⟩
 have HKh:Hid (Below w2.heap.size w2 wh):=HKg.out.trans (hbh.mono HKg.out.size)
 have HHh:=hide (HHg.out.blw hbh)
 clear hbh HIg HHg
 go_wp2_with fail
 refine (HCH.out _ HHh.out).mono ?_
 rintro e wd' ⟨rfl,hwd⟩
 subst hwd
 go_wp2_with fail
 refine (HCJ.out _ HHh.out).mono ?_
 rintro e wd2 ⟨rfl,hwd⟩
 subst hwd
 go_wp2
 go_ret
 exact⟨rfl,HW.out HKh.out⟩
end Go.Proofs.YtbiakdjpeblclaaGreatDoor
namespace Go.Proofs.YtbiakdjpeblclaaGreatDoor
open Go.ChangeShapes Go.WideShapes Go.ChangeAt Go.RowKit
def IsRow (k:IntKind)(w:World)(a:Option Addr)(len cap:Nat)(zs:List Int):Prop:=
 (a=none∧len=0∧cap=0∧zs = [])∨
 ∃x,a=some x∧len≤cap∧cap≤maxLen∧zs.length=cap∧(∀i,i<zs.length→w.cell? (x.add i)=some (.int k (zs.getD i 0)))∧∀n∈zs,(Lit.int k n).wf=true
theorem text_of_row {w:World}{a:Option Addr}{len cap:Nat}{zs:List Int}(h:IsRow .u8 w a len cap zs):
 ∃(s:ByteArray) (b off:Nat),s.size=len∧(0<s.size→a=some ⟨b,off,none⟩)∧∀j,j<s.size→w.cell? ⟨b,off+j,none⟩=some (bts s j):=by
 rcases h with⟨rfl,rfl,rfl,rfl⟩|⟨x,rfl,hl,_,hz,hcell,hwf⟩
 ·exact⟨ByteArray.empty,0,0,rfl,fun h=>absurd h (by decide),fun j hj=>absurd hj (Nat.not_lt_zero _)⟩
 ·have hsz:(strOfNums (zs.take len)).size=len:=by rw[strOfNums_size];simp;omega
  by_cases h0:len=0
  ·exact⟨strOfNums (zs.take len),0,0,hsz,fun h=>by omega,fun j hj=>by omega⟩
  ·obtain⟨b,off,rfl,hc⟩:=ints_at hcell (by omega)
   refine⟨strOfNums (zs.take len),b,off,hsz,fun _=>rfl,fun j hj=>?_⟩
   have hj':j<zs.length:=by omega
   rw[hc j hj']
   have hw:=hwf zs[j] (List.getElem_mem hj')
   have h1:IntKind.u8.min=0:=rfl
   have h2:IntKind.u8.max=255:=rfl
   simp only[Lit.wf,Bool.and_eq_true,decide_eq_true_eq]at hw
   have hb:0≤zs[j]∧zs[j]≤255:=by omega
   have e:(strOfNums (zs.take len)).get! j=UInt8.ofNat zs[j].toNat:=by
    have hjt:j<((zs.take len).map fun n=>UInt8.ofNat n.toNat).toArray.size:=by simp;omega
    show ((zs.take len).map fun n=>UInt8.ofNat n.toNat).toArray[j]! = _
    rw[getElem!_pos _ j hjt]
    simp
   have e2:(UInt8.ofNat zs[j].toNat).toNat=zs[j].toNat:=by rw[UInt8.toNat_ofNat'];omega
   have e3:zs.getD j 0=zs[j]:=by simp[List.getD,hj']
   unfold bts
   rw[e,e2,e3,Int.toNat_of_nonneg hb.1]
end Go.Proofs.YtbiakdjpeblclaaGreatDoor

/-
  The walks of impl.readCharacter and impl.readLiteral.
-/
import Derived.Test.YtbiakdjpeblclaaGreatDoorJPaQ
import Derived.Test.YtbiakdjpeblclaaGreatDoorJPaLX
import Derived.Lib.IndexAny
import Derived.Lib.IndexMore
namespace Go.Proofs.YtbiakdjpeblclaaGreatDoor
open Go.RowKit
def rcr (s:ByteArray)(p:Nat):Nat × Nat:=if (s.get! p).toNat=10 then (0,0) else if (s.get! p).toNat=92 then rch (s.extract p s.size) else Utf8.decode s p
theorem uCells (v:Nat)(h:pointB v=true):cv (ubytes v)=Lib.runeCells (v:Int):=by
 have hp:=(pointB_nat v).1 h
 unfold ubytes
 simp only[Lib.runeCells]
 by_cases h1:v<128
 ·rw[if_pos h1,Lib.encodeRuneZ_one (by omega) (by omega)];rfl
 rw[if_neg h1]
 by_cases h2:v<2048
 ·rw[if_pos h2,Lib.encodeRuneZ_two (by omega) (by omega)]
  simp[cv]
 rw[if_neg h2]
 by_cases h3:v<65536
 ·rw[if_pos h3,Lib.encodeRuneZ_three (by omega)]
  simp[cv]
 ·rw[if_neg h3,Lib.encodeRuneZ_four (by omega) (by omega)]
  simp[cv]
theorem rcr_step (s:ByteArray)(p f c:Nat)(acc:List Nat)(hp:p<s.size)(hf:s.size<p+f)(hcf:s.size<p+c)(hok:chkAt s c p=(0,0))(hq:(s.get! p).toNat≠34):
 ((rcr s p).2=0→lit s f p acc=none)∧((rcr s p).2≠0→∃g c' ys,s.size<p+(rcr s p).2+g∧p+(rcr s p).2≤s.size∧lit s f p acc=lit s g (p+(rcr s p).2) (acc++ys)∧cv ys=Lib.runeCells ((rcr s p).1:Int)∧(rcr s p).1≤1114111∧s.size<p+(rcr s p).2+c'∧chkAt s c' (p+(rcr s p).2)=(0,0)):=by
 have hc:(chr s p).1≠0:=fun e=>by rw[chkAt_bad hp hcf e]at hok;cases hok
 obtain⟨c1,hc1,hstep⟩:=chkAt_good hp hcf hc
 rw[hok]at hstep
 unfold rcr
 by_cases h10:(s.get! p).toNat=10
 ·rw[if_pos h10]
  exact⟨fun _=>lit_lf hp h10,fun h=>absurd rfl h⟩
 rw[if_neg h10]
 by_cases h92:(s.get! p).toNat=92
 ·rw[if_pos h92]
  have hl:=lit_esc (acc:=acc) hf hp h92
  have hx:=esc_ext s p 1 (by omega)
  have hv:escv (s.extract p s.size) 1=escv s (p+1):=by
   unfold escv
   rw[get!_extract,hv_ext,kc_ext s p (by omega)]
  have hle:=esc_le s (p+1)
  unfold rch
  rw[hx,hv]
  by_cases h0:(esc s (p+1)).2=0
  ·rw[if_pos h0]
   exact⟨fun _=>hl.1 h0,fun h=>absurd rfl h⟩
  ·rw[if_neg h0]
   refine⟨fun h=>by simp only at h;omega,fun _=>?_⟩
   obtain⟨g,hg,e⟩:=hl.2 h0
   have hev:=esc_v s (p+1) h0
   have hlow:=esc_low s (p+1) h0
   have hin:=(hle.2.2 h0).1
   have h92b:bk s p 0=92:=h92
   obtain⟨c',hc',hok'⟩:=chkAt_low s ((esc s (p+1)).2+1) p c (by omega) hcf hok (fun j hj=>by
    cases j with
    |zero=>rw[Nat.add_zero,h92];decide
    |succ j=>have:=hlow j (by omega);rw[show p+(j+1)=p+1+j by omega];exact this)
   have ee:p+((esc s (p+1)).2+1)=p+1+(esc s (p+1)).2:=by omega
   simp only
   refine⟨g,c',(esc s (p+1)).1,by omega,by omega,by rw[ee];exact e,by rw[hev.1];exact uCells _ hev.2,?_,by omega,hok'⟩
   have:=(pointB_nat _).1 hev.2
   omega
 ·rw[if_neg h92,chr_dec hc]
  refine⟨fun h=>absurd h hc,fun _=>?_⟩
  simp only
  by_cases hb:bk s p 0<128
  ·have ha:=chr_ascii s p hb
   obtain⟨g,hg,e⟩:=lit_byte (acc:=acc) hf hp hq h10 h92
   rw[ha]at hstep ⊢
   simp only at hstep ⊢
   refine⟨g,c1,[(s.get! p).toNat],by omega,by omega,e,?_,by omega,by omega,hstep.symm⟩
   have e0:bk s p 0=(s.get! p).toNat:=rfl
   rw[← e0]
   simp only[Lib.runeCells]
   rw[Lib.encodeRuneZ_one (by omega) (by omega)];rfl
  ·obtain⟨g,ys,h1,h2,h3,h4,h5,h6⟩:=lit_rune s p f acc hp hf hc (by omega)
   exact⟨g,c1,ys,h1,h6,h2,h3,h5,by omega,hstep.symm⟩
set_option maxHeartbeats 1000000 in
set_option maxRecDepth 1000000 in
theorem rc_any (s:ByteArray)(p:Nat)(w:World)(m:Int)(te:TypeId)(pe:Value)(hs:s.size≤1048576)(hp:p<s.size)(hc:(chr s p).1≠0)
 (hT:Lib.Utf8Tabs 3 4 w) (hM:w.cell? ⟨5,0,none⟩=some (.int .i64 m)) (hE:w.cell? ⟨7,0,none⟩=some (.iface te pe)):
 Calls Tryz.prog 133 #[.string (s.extract p s.size)] w fun e w'=>e = .returned (.tuple #[.int .i32 (rcr s p).1,.int .i64 (rcr s p).2])∧Below w.heap.size w w':=by
 have hd0:=Tryz.utf8_DecodeRuneInString (s.extract p s.size) w hT
 rw[decode_extract s p hp,chr_dec hc]at hd0
 have hr0:(s.extract p s.size).get! 0=s.get! p:=get!_extract s p 0
 have hrz:(s.extract p s.size).size=s.size - p:=size_ext s p (by omega)
 have hmax:(chr s p).2≤1114111:=by
  by_cases hb:bk s p 0<128
  ·rw[chr_ascii s p hb];simp only;omega
  ·obtain⟨g,ys,h1,h2,h3,h4,h5,h6⟩:=lit_rune s p (s.size+1) [] hp (by omega) hc (by omega)
   exact h5
 have hval:(chr s p).2=(s.get! p).toNat∨(128≤(chr s p).2∧128≤(s.get! p).toNat):=by
  by_cases hb:bk s p 0<128
  ·rw[chr_ascii s p hb];exact .inl rfl
  ·obtain⟨g,ys,h1,h2,h3,h4,h5,h6⟩:=lit_rune s p (s.size+1) [] hp (by omega) hc (by omega)
   exact .inr ⟨h4,by have e:bk s p 0=(s.get! p).toNat:=rfl;omega⟩
 have HRE:Hid (s.get! p=92→∀w',Below w.heap.size w w'→Calls Tryz.prog 148 #[.string (s.extract p s.size)] w' fun e w''=>e = .returned (.tuple #[.int .i32 (rch (s.extract p s.size)).1,.int .i64 (rch (s.extract p s.size)).2])∧Below w'.heap.size w' w''):=fun h92 w' hb=>
  re_any _ w' m te pe (by omega) (by omega) (by rw[hr0,h92]) (by rw[hb.cell (p:=⟨5,0,none⟩) (World.block_lt_of_cell? _ _ hM)];exact hM) (by rw[hb.cell (p:=⟨7,0,none⟩) (World.block_lt_of_cell? _ _ hE)];exact hE)
 have HRC:Hid (rcr s p=if (s.get! p).toNat=10 then (0,0) else if (s.get! p).toNat=92 then rch (s.extract p s.size) else ((chr s p).2,(chr s p).1)):=by show _=_;unfold rcr;rw[chr_dec hc]
 have hn4:=chr_le s p
 obtain⟨n,v,hnv⟩:∃n v,chr s p=(n,v):=⟨_,_,rfl⟩
 rw[hnv]at hd0 hmax hval HRC hn4
 simp only at hd0 hmax hval hn4
 have HD:=hide hd0
 obtain⟨r,hr⟩:∃r,s.extract p s.size=r:=⟨_,rfl⟩
 rw[hr]at HD HRE HRC
 rw[hr]
 clear hd0 hnv hc hT hM hE hr hr0 hrz
 have hby:=(s.get! p).toNat_lt
 by_cases h10:v=10
 ·have hb10:(s.get! p).toNat=10:=by omega
  have HR:Hid (rcr s p=(0,0)):=by show _=_;rw[HRC.out,if_pos hb10]
  have t1:((v:Int)==10)=true:=by rw[beq_iff_eq];omega
  clear h10 hb10 hval HRC
  go_enter Tryz.func133,Tryz.ntmps133
  go_wp2_with fail
  refine HD.out.mono ?_
  rintro e w1 ⟨rfl,hb1⟩
  have HB:=hide hb1
  clear hb1
  go_wp2
  go_ret2
  exact⟨by rw[HR.out];rfl,HB.out⟩
 ·have t1:((v:Int)==10)=false:=by rw[beq_eq_false_iff_ne];omega
  by_cases h92:v=92
  ·have hb92:(s.get! p).toNat=92:=by omega
   have HR:Hid (rcr s p=rch r):=by show _=_;rw[HRC.out,if_neg (by omega),if_pos hb92]
   have t2:((v:Int)==92)=true:=by rw[beq_iff_eq];omega
   have hre':=HRE.out (UInt8.toNat_inj.1 hb92)
   obtain⟨a,b,hab⟩:∃a b,rch r=(a,b):=⟨_,_,rfl⟩
   rw[hab]at hre' HR
   have HRE':=hide hre'
   clear hre' hab
   clear h10 h92 hb92 hval HRC HRE
   go_enter Tryz.func133,Tryz.ntmps133
   go_wp2_with fail
   refine HD.out.mono ?_
   rintro e w1 ⟨rfl,hb1⟩
   have HC:=hide (HRE'.out w1 hb1)
   have HB:=hide hb1
   have HS:=hide hb1.size
   clear hb1
   go_wp2_with fail
   refine HC.out.mono ?_
   rintro e w2 ⟨rfl,hb2⟩
   have HB2:Hid (Below w.heap.size w w2):=HB.out.trans (hb2.mono HS.out)
   clear hb2
   go_wp2
   go_ret2
   exact⟨by rw[HR.out];rfl,HB2.out⟩
  ·have t2:((v:Int)==92)=false:=by rw[beq_eq_false_iff_ne];omega
   have HR:Hid (rcr s p=(v,n)):=by show _=_;rw[HRC.out,if_neg (by omega),if_neg (by omega)]
   clear h10 h92 hval HRC HRE
   go_enter Tryz.func133,Tryz.ntmps133
   go_wp2_with fail
   refine HD.out.mono ?_
   rintro e w1 ⟨rfl,hb1⟩
   have HB:=hide hb1
   clear hb1
   go_wp2
   go_ret2
   exact⟨by rw[HR.out];rfl,HB.out⟩
set_option maxHeartbeats 1000000 in
set_option maxRecDepth 1000000 in
theorem rl_no (s:ByteArray)(w:World)(hno:¬(1≤s.size∧s.get! 0=34)):
 Calls Tryz.prog 111 #[.string s] w fun e w'=>e = .returned (.tuple #[.slice none 0 0,.int .i64 0])∧w'=w:=by
 have H1:=hide (hp_is s ⟨#[34]⟩ false (by rw[show (⟨#[34]⟩:ByteArray).data.toList = [34] from rfl,pre_one];exact decide_eq_false hno))
 clear hno
 go_enter Tryz.func111,Tryz.ntmps111
 go_wp2_with fail
 refine (H1.out _).mono ?_
 rintro e w' ⟨rfl,rfl⟩
 go_wp2
 go_ret2
 exact⟨rfl,rfl⟩
set_option maxHeartbeats 1000000 in
set_option maxRecDepth 1000000 in
theorem rl_yes (s:ByteArray)(w:World)(m:Int)(te:TypeId)(pe:Value)(hs:s.size≤1048576)(h1:1≤s.size)(h0:s.get! 0=34)(hok:chk s=(0,0))
 (hT:Lib.Utf8Tabs 3 4 w) (hM:w.cell? ⟨5,0,none⟩=some (.int .i64 m)) (hE:w.cell? ⟨7,0,none⟩=some (.iface te pe)):
 Calls Tryz.prog 111 #[.string s] w fun e w'=>∃v',e = .returned (.tuple #[v',.int .i64 (litRes s 0).2])∧w'.ownsRow w.heap.size 5 1 v' (litRes s 0).1.length (cv (litRes s 0).1)∧Below w.heap.size w w':=by
 have H1:=hide (hp_is s ⟨#[34]⟩ true (by rw[show (⟨#[34]⟩:ByteArray).data.toList = [34] from rfl,pre_one];exact decide_eq_true ⟨h1,h0⟩))
 have h34:(s.get! 0).toNat=34:=by rw[h0];rfl
 have HL:Hid (litAt s 0=lit s (s.size+1) 1 []):=by
  show _=_
  unfold litAt;rw[if_neg (by rintro (e|e);omega;exact e h34)]
 obtain⟨L,hL⟩:∃L,lit s (s.size+1) 1 []=L:=⟨_,rfl⟩
 have HLL:=hide hL
 have HST:Hid (∃c,s.size<1+c∧chkAt s c 1=(0,0)):=by
  obtain⟨c,h2,h3⟩:=chkAt_low s 1 0 (s.size+1) (by omega) (by omega) hok (fun j hj=>by
   have e:j=0:=by omega
   rw[e,Nat.add_zero,h34];decide)
  exact⟨c,by omega,h3⟩
 have HRC:Hid (∀(p:Nat) (w':World),p<s.size→(chr s p).1≠0→Below w.heap.size w w'→Calls Tryz.prog 133 #[.string (s.extract p s.size)] w' fun e w''=>e = .returned (.tuple #[.int .i32 (rcr s p).1,.int .i64 (rcr s p).2])∧Below w'.heap.size w' w''):=fun p w' hp hc hb=>
  rc_any s p w' m te pe hs hp hc (Utf8Tabs_below hT hb) (by rw[hb.cell (p:=⟨5,0,none⟩) (World.block_lt_of_cell? _ _ hM)];exact hM) (by rw[hb.cell (p:=⟨7,0,none⟩) (World.block_lt_of_cell? _ _ hE)];exact hE)
 clear h0 h34 hok hT hM hE hL
 go_enter Tryz.func111,Tryz.ntmps111
 go_wp2_with fail
 refine (H1.out _).mono ?_
 rintro e w' ⟨rfl,hw⟩
 subst hw
 go_wp2
 go_loopw [4,5] (fun out ix wr=>∃(i f c:Nat) (acc:List Nat),ix = .int .i64 i∧1≤i∧i≤s.size∧s.size<i+f∧lit s f i acc=L∧s.size<i+c∧chkAt s c i=(0,0)∧acc.length≤4*i∧wr.ownsRow w'.heap.size 5 1 out acc.length (cv acc)∧Below w'.heap.size w' wr) (fun _ ix _=>s.size - (intOf ix).toNat)
 case atStart=>
  obtain⟨c,h2,h3⟩:=HST.out
  exact⟨1,s.size+1,c,[],by go_num,by omega,by omega,by omega,HLL.out,h2,h3,by simp,World.ownsRow_nil _ _ _ _,Below.refl _ _⟩
 case round=>
  obtain⟨i,f,c,acc,rfl,h1i,hi,hf,hk,hcf,hck,hal,hown,hbl⟩:=hrel
  have HK:=hide hk
  have HCK:=hide hck
  have HOWN:=hide hown
  have HBL:=hide hbl
  have HBs:=hide hbl.size
  clear hk hck hown hbl
  by_cases hlt:i<s.size
  ·have hgi:=Utf8W.get!_of_lt s i hlt
   obtain⟨x,hx⟩:∃x,s[i]'hlt=x:=⟨_,rfl⟩
   rw[hx]at hgi
   have HG:=hide hgi
   have hxl:=x.toNat_lt
   have d1:decide ((i:Int)<(s.size:Int))=true:=decide_eq_true (by omega)
   clear hgi
   by_cases h34:x.toNat=34
   ·have HR:Hid (litRes s 0=(acc,i+1)):=by
     show _=_
     unfold litRes;rw[HL.out,HLL.out,← HK.out,lit_quote hf hlt (by rw[HG.out];exact h34)];rfl
    have t1:((x.toNat:Int)==34)=true:=by rw[beq_iff_eq];omega
    clear h34
    go_wp2
    go_ret2
    exact⟨_,by rw[HR.out];exact ret_vi (by omega),by rw[HR.out];exact HOWN.out,HBL.out⟩
   ·have t1:((x.toNat:Int)==34)=false:=by rw[beq_eq_false_iff_ne];omega
    have hst:=rcr_step s i f c acc hlt hf hcf HCK.out (by rw[HG.out];exact h34)
    have hc:(chr s i).1≠0:=fun e=>by have:=HCK.out;rw[chkAt_bad hlt hcf e]at this;cases this
    have hrc:=HRC.out i wr hlt hc HBL.out
    obtain⟨v,n,hvn⟩:∃v n,rcr s i=(v,n):=⟨_,_,rfl⟩
    rw[hvn]at hst hrc
    simp only at hst hrc
    have HRC':=hide hrc
    have HSTP:=hide hst
    clear h34 hst hc hrc hvn
    by_cases hn:n=0
    ·have t2:((n:Int)==0)=true:=by rw[beq_iff_eq];omega
     have HR:Hid (litRes s 0=([],0)):=by
      show _=_
      unfold litRes;rw[HL.out,HLL.out,← HK.out,HSTP.out.1 hn]
     clear hn
     go_wp2_with fail
     refine HRC'.out.mono ?_
     rintro e w1 ⟨rfl,hb1⟩
     have HB1:=hide (HBL.out.trans (hb1.mono HBs.out))
     clear hb1
     go_wp2
     go_ret2
     exact⟨_,by rw[HR.out];rfl,by rw[HR.out];exact World.ownsRow_nil _ _ _ _,HB1.out⟩
    ·have t2:((n:Int)==0)=false:=by rw[beq_eq_false_iff_ne];omega
     obtain⟨g,c',ys,q1,q2,q3,q4,q5,q6,q7⟩:=HSTP.out.2 hn
     have HQ3:=hide q3
     have HQ7:=hide q7
     have hys:ys.length≤4:=by
      have h:=Lib.runeCells_le (v:Int)
      rw[← q4,cv_length]at h
      exact h.2
     have HQ4:=hide q4
     have hn1:1≤n:=by omega
     clear hn q3 q4 q7 HSTP
     go_wp2_with fail
     refine HRC'.out.mono ?_
     rintro e w1 ⟨rfl,hb1⟩
     have HB1:=hide (HBL.out.trans (hb1.mono HBs.out))
     have HO1:=hide (kept_below HOWN.out hb1)
     clear hb1
     go_wp2_with fail
     refine (Tryz.utf8_AppendRune_plain w'.heap.size _ acc.length (cv acc) (v:Int) (by omega) (by omega) w1 HO1.out (by omega) HB1.out.size).mono ?_
     rintro e w2 ⟨v',rfl,ho,o,hg⟩
     have HO2:Hid (w2.ownsRow w'.heap.size 5 1 v' (acc++ys).length (cv (acc++ys))):=by
      rw[← HQ4.out,← cv_append,cv_length]at ho
      rw[List.length_append]
      exact ho
     have HB2:Hid (Below w'.heap.size w' w2):=(HB1.out.alloc HB1.out.size o).grown hg (by have:=HB1.out.size;simp;omega) (fun k hk=>(HO1.out.lt k hk).1)
     clear ho hg
     have hlen:(acc++ys).length=acc.length+ys.length:=List.length_append
     go_wp2
     go_roundw
     case rel=>exact⟨i+n,g,c',acc++ys,by go_num,by omega,by omega,by omega,by rw[← HQ3.out];exact HK.out,by omega,HQ7.out,by omega,HO2.out,HB2.out⟩
     case measure=>simp[intOf];omega
  ·have d1:decide ((i:Int)<(s.size:Int))=false:=decide_eq_false (by omega)
   have HR:Hid (litRes s 0=([],0)):=by
    show _=_
    unfold litRes;rw[HL.out,HLL.out,← HK.out,lit_end (by omega)]
   go_wp2
   go_ret2
   exact⟨_,by rw[HR.out];rfl,by rw[HR.out];exact World.ownsRow_nil _ _ _ _,HBL.out⟩
theorem chkAt_zero (s:ByteArray):∀f p,(chkAt s f p).1=0→chkAt s f p=(0,0)
 |0,_,_=>rfl
 |f+1,p,h=>by
  rw[chkAt]at h ⊢
  by_cases c:p<s.size
  ·rw[if_pos c]at h ⊢
   by_cases d:(chr s p).1=0
   ·rw[if_pos d]at h;simp at h
   ·rw[if_neg d]at h ⊢;exact chkAt_zero s f _ h
  ·rw[if_neg c]
theorem rl_any (s:ByteArray)(w:World)(m:Int)(te:TypeId)(pe:Value)(hs:s.size≤1048576)(hok:chk s=(0,0))
 (hT:Lib.Utf8Tabs 3 4 w) (hM:w.cell? ⟨5,0,none⟩=some (.int .i64 m)) (hE:w.cell? ⟨7,0,none⟩=some (.iface te pe)):
 Calls Tryz.prog 111 #[.string s] w fun e w'=>∃v',e = .returned (.tuple #[v',.int .i64 (litRes s 0).2])∧w'.ownsRow w.heap.size 5 1 v' (litRes s 0).1.length (cv (litRes s 0).1)∧Below w.heap.size w w':=by
 by_cases h:1≤s.size∧s.get! 0=34
 ·exact rl_yes s w m te pe hs h.1 h.2 hok hT hM hE
 ·have e:litRes s 0=([],0):=by
   unfold litRes litAt
   rw[if_pos]
   by_cases c:s.size≤0
   ·exact .inl c
   ·exact .inr (byte_ne (b:=34) (fun e=>h ⟨by omega,e⟩))
  rw[e]
  refine (rl_no s w h).mono ?_
  rintro e w' ⟨rfl,rfl⟩
  exact⟨_,rfl,World.ownsRow_nil _ _ _ _,Below.refl _ _⟩
theorem isW_or (s:ByteArray):isW s=wl.any (fun l=>s.toList==l):=by
 unfold isW
 rw[Bool.eq_iff_iff,List.contains_iff_mem,List.any_eq_true]
 constructor
 ·intro h;exact⟨_,h,by simp⟩
 ·rintro⟨l,h1,h2⟩;rw[eq_of_beq h2];exact h1
set_option maxHeartbeats 4000000 in
set_option maxRecDepth 1000000 in
theorem implWord_any (s:ByteArray)(w:World):
 Calls Tryz.prog 113 #[.string s] w fun e w'=>e = .returned (.bool (isW s))∧w'=w:=by
 have HI:=hide (isW_or s)
 generalize isW s=W at *
 go_enter Tryz.func113,Tryz.ntmps113
 go_wp2
 all_goals go_ret
 all_goals refine⟨ret_bool ?_,rfl⟩
 all_goals rw[HI.out]
 all_goals simp only[wl,List.any_cons,List.any_nil]
 all_goals simp_all only[Bool.true_or,Bool.or_true,Bool.or_false,Bool.false_eq_true]
theorem glist (t:ByteArray)(j:Nat)(hj:j<t.size):t.data.toList[j]?=some (t.get! j):=by
 rw[Utf8W.get!_of_lt t j hj]
 have h':j<t.data.size:=hj
 rw[Array.getElem?_toList,Array.getElem?_eq_getElem h']
 rfl
theorem ib_is (r:ByteArray)(c:Int)(i:Int)(hi:Lib.indexByte r.data.toList c.toNat.toUInt8=i)(w:World):
 Calls Tryz.prog 130 #[.string r,.int .u8 c] w fun e w'=>e = .returned (.int .i64 i)∧w'=w:=by
 rw[← hi];exact Tryz.strings_IndexByte r c w
set_option maxHeartbeats 1000000 in
set_option maxRecDepth 1000000 in
theorem line_any (r:ByteArray)(w:World)(hs:r.size≤1048576)(h2:2≤r.size)(h0:(r.get! 0).toNat=47)(h1:(r.get! 1).toNat=47):
 Calls Tryz.prog 107 #[.string r] w fun e w'=>e = .returned (.int .i64 (2+ln r 2:Nat))∧w'=w:=by
 have hge:=Lib.indexByte_ge r.data.toList 10
 obtain⟨i,hi⟩:∃i,Lib.indexByte r.data.toList 10=i:=⟨_,rfl⟩
 rw[hi]at hge
 have HI:=hide (ib_is r 10 i (by rw[← hi];rfl))
 by_cases hn:i = -1
 ·have HR:Hid (2+ln r 2=r.size):=by
   show _=_
   have hno:=Lib.indexByte_none (hi.trans hn)
   have:ln r 2=r.size - 2:=cw_is (by omega) (fun j hj=>by
    rw[bne_iff_ne]
    intro e
    exact hno (2+j) (by rw[glist r _ (by omega)];congr 1;exact UInt8.toNat_inj.1 e)) (fun g=>by omega)
   omega
  have t1:decide (0≤i)=false:=decide_eq_false (by omega)
  clear hi hge hn h0 h1
  go_enter Tryz.func107,Tryz.ntmps107
  go_wp2_with fail
  refine (HI.out _).mono ?_
  rintro e w' ⟨rfl,rfl⟩
  go_wp2
  go_ret
  exact⟨by rw[HR.out];rfl,rfl⟩
 ·obtain⟨o,ho⟩:∃o:Nat,i=(o:Int):=⟨i.toNat,by omega⟩
  have HR:Hid (2+ln r 2=o):=by
   show _=_
   have hso:=Lib.indexByte_some (hi.trans ho)
   have hoz:o<r.size:=by
    rcases Nat.lt_or_ge o r.size with g|g
    ·exact g
    ·have:=hso.1
     rw[List.getElem?_eq_none (by rw[Array.length_toList];exact g)]at this
     cases this
   have hob:r.get! o=10:=by have:=hso.1;rw[glist r o hoz]at this;exact Option.some.inj this
   have ho0:o≠0:=fun e=>by rw[e]at hob;rw[hob]at h0;exact absurd h0 (by decide)
   have ho1:o≠1:=fun e=>by rw[e]at hob;rw[hob]at h1;exact absurd h1 (by decide)
   have:ln r 2=o - 2:=cw_is (by omega) (fun j hj=>by
    rw[bne_iff_ne]
    intro e
    exact hso.2 (2+j) (by omega) (by rw[glist r _ (by omega)];congr 1;exact UInt8.toNat_inj.1 e)) (fun g=>by
    rw[show 2+(o - 2)=o by omega,hob]at g
    exact absurd g.2 (by decide))
   omega
  subst ho
  have t1:decide (0≤(o:Int))=true:=decide_eq_true (by omega)
  clear hi hge hn h0 h1
  go_enter Tryz.func107,Tryz.ntmps107
  go_wp2_with fail
  refine (HI.out _).mono ?_
  rintro e w' ⟨rfl,rfl⟩
  go_wp2
  go_ret
  exact⟨by rw[HR.out];rfl,rfl⟩
theorem drop_list (t:ByteArray)(i:Nat):(t.extract i t.size).data.toList=t.data.toList.drop i:=by
 rw[Lib.extract_eq]
 exact List.take_of_length_le (by rw[List.length_drop,← Lib.size_eq];exact Nat.le_refl _)
theorem occ2 (t:ByteArray)(i:Nat)(hi:i≤t.size):Lib.occAt t.data.toList [42,47] i=true↔i+1<t.size∧(t.get! i).toNat=42∧(t.get! (i+1)).toNat=47:=by
 have h:=pre_two (t.extract i t.size) 42 47
 rw[get!_extract,get!_extract,size_ext t i hi]at h
 unfold Lib.occAt
 rw[← drop_list]
 show Lib.hasPrefix _ _=true↔_
 rw[h,decide_eq_true_iff]
 constructor
 ·rintro⟨a,b,c⟩;exact⟨by omega,by rw[← show i+0=i from rfl,b];rfl,by rw[c];rfl⟩
 ·rintro⟨a,b,c⟩;exact⟨by omega,UInt8.toNat_inj.1 b,UInt8.toNat_inj.1 c⟩
def bsz : Option Nat→Nat
 |some q=>q+2
 |none=>0
set_option maxHeartbeats 1000000 in
set_option maxRecDepth 1000000 in
theorem block_any (r:ByteArray)(w:World)(m:Int)(hs:r.size≤1048576)(h2:2≤r.size)(hM:w.cell? ⟨5,0,none⟩=some (.int .i64 m)):
 Calls Tryz.prog 108 #[.string r] w fun e w'=>e = .returned (.int .i64 (bsz (bc r 2 r.size)))∧w'=w:=by
 have HI:=Tryz.strings_Index (r.extract 2 r.size) ⟨#[42,47]⟩ m w (by rw[size_ext r 2 h2];omega) hM
 have hz:=size_ext r 2 h2
 have hg:∀k,(r.extract 2 r.size).get! k=r.get! (2+k):=fun k=>get!_extract r 2 k
 have hsp:=Lib.index_spec (r.extract 2 r.size).data.toList [42,47]
 have hoc:=occ2 (r.extract 2 r.size)
 obtain⟨t,ht⟩:∃t,r.extract 2 r.size=t:=⟨_,rfl⟩
 rw[ht]at HI hz hg hsp hoc
 have hlen:t.data.toList.length=t.size:=by rw[Array.length_toList];rfl
 rw[hlen]at hsp
 rcases hsp with⟨e,hno⟩|⟨i,e,hi,ho,hno⟩
 ·have HR:Hid (bc r 2 r.size=none):=bc_miss r r.size 2 (fun j hj g=>by
   have:=hno j (by omega)
   rw[(hoc j (by omega)).2 ⟨by omega,by rw[hg];exact g.1,by rw[hg,show 2+(j+1)=2+j+1 by omega];exact g.2⟩]at this
   cases this)
  have HI':Hid (Calls Tryz.prog 131 #[.string t,.string ⟨#[42,47]⟩] w fun e w'=>e = .returned (.int .i64 (-1))∧w'=w):=by
   show Calls _ _ _ _ _
   rw[← e];exact HI
  clear HI hg hoc hno e hz hlen
  rw[HR.out]
  show Calls _ _ _ _ fun e w'=>e = .returned (.int .i64 0)∧w'=w
  have ht':=ht
  go_enter Tryz.func108,Tryz.ntmps108
  go_wp2_with fail
  refine HI'.out.mono ?_
  rintro e w' ⟨rfl,rfl⟩
  go_wp2
  go_ret
  exact⟨rfl,rfl⟩
 ·have hoi:=(hoc i hi).1 ho
  have HR:Hid (bc r 2 r.size=some (2+i)):=bc_hit r r.size 2 i (by omega) (by omega) (fun j hj g=>by
   have:=hno j hj
   rw[(hoc j (by omega)).2 ⟨by omega,by rw[hg];exact g.1,by rw[hg,show 2+(j+1)=2+j+1 by omega];exact g.2⟩]at this
   cases this) (by rw[← hg];exact hoi.2.1) (by rw[show 2+i+1=2+(i+1) by omega,← hg];exact hoi.2.2)
  have HI':Hid (Calls Tryz.prog 131 #[.string t,.string ⟨#[42,47]⟩] w fun e w'=>e = .returned (.int .i64 i)∧w'=w):=by
   show Calls _ _ _ _ _
   rw[← e];exact HI
  have hi2:i≤1048576:=by omega
  clear HI hg hoc hno e hoi ho
  rw[HR.out]
  show Calls _ _ _ _ fun e w'=>e = .returned (.int .i64 ((2+i+2:Nat):Int))∧w'=w
  have t1:decide ((i:Int)<0)=false:=decide_eq_false (by omega)
  have ht':=ht
  clear hz hlen
  go_enter Tryz.func108,Tryz.ntmps108
  go_wp2_with fail
  refine HI'.out.mono ?_
  rintro e w' ⟨rfl,rfl⟩
  go_wp2
  go_ret
  exact⟨ret_int (by omega),rfl⟩
theorem atoi_digit (c:UInt8)(r:List UInt8)(h:isD c.toNat=true):
 (∀u,Lib.parseUint10 0 (c::r) = .ok u→u<9223372036854775808→Lib.atoiAll (c::r) = .ok u)∧(∀u,Lib.parseUint10 0 (c::r) = .ok u→9223372036854775808≤u→Lib.atoiAll (c::r) = .range)∧(Lib.parseUint10 0 (c::r) = .syntax→Lib.atoiAll (c::r) = .syntax)∧(Lib.parseUint10 0 (c::r) = .range→Lib.atoiAll (c::r) = .range):=by
 have hd:=(isD_iff _).1 h
 have e:Lib.parseMag (if c.toNat=43∨c.toNat=45 then r else c::r)=Lib.parseUint10 0 (c::r):=by
  rw[if_neg (by omega)]
  unfold Lib.parseMag
  rw[if_neg (by simp)]
 unfold Lib.atoiAll
 simp only
 rw[e]
 refine⟨fun u hu hl=>?_,fun u hu hl=>?_,fun hu=>?_,fun hu=>?_⟩
 ·rw[hu];simp only;rw[if_neg (by omega),if_neg (by omega),if_neg (by omega)]
 ·rw[hu];simp only;rw[if_pos ⟨by omega,hl⟩]
 ·rw[hu]
 ·rw[hu]
theorem atoi_num (l:List UInt8)(hne:∃c r,l=c::r∧isD c.toNat=true):
 (0≤nvl l 0→∃u:Nat,Lib.atoiAll l = .ok (u:Int)∧u≤99999)∧(nvl l 0<0→(∃u:Nat,Lib.atoiAll l = .ok (u:Int)∧99999<u)∨Lib.atoiAll l = .syntax∨Lib.atoiAll l = .range):=by
 obtain⟨c,r,rfl,hd⟩:=hne
 have ha:=atoi_digit c r hd
 have hn:=nvl_pu (c::r) 0 (by omega)
 constructor
 ·intro h
  obtain⟨u,h1,h2⟩:=hn.1 h
  exact⟨u,ha.1 u h1 (by omega),h2⟩
 ·intro h
  cases e:Lib.parseUint10 0 (c::r) with
  |ok u=>
   have hu:99999<u:=by
    rcases Nat.lt_or_ge 99999 u with g|g
    ·exact g
    ·have:=hn.2 ⟨u,e,g⟩;omega
   rcases Nat.lt_or_ge u 9223372036854775808 with g|g
   ·exact .inl ⟨u,ha.1 u e g,hu⟩
   ·exact .inr (.inr (ha.2.1 u e g))
  |«syntax»=>exact .inr (.inl (ha.2.2.1 e))
  |range=>exact .inr (.inr (ha.2.2.2 e))
theorem below_bytes (w:World)(t:ByteArray):Below w.heap.size w (Lib.bytesWorld w 5 t):=⟨rfl,rfl,rfl,by rw[Lib.bytesWorld_size];omega,fun j hj=>Lib.bytesWorld_at_old w 5 t j hj⟩
def nsz (r:ByteArray):Nat:=if nval r (run r 0) 0 0<0 then 0 else run r 0
set_option maxHeartbeats 1000000 in
set_option maxRecDepth 1000000 in
theorem numberSize_any (r:ByteArray)(w:World)(te1 te2:TypeId)(pe1 pe2:Value)(hs:r.size≤1048576)(h1:1≤r.size)(hd:isD (r.get! 0).toNat=true)
 (hE:w.cell? ⟨7,0,none⟩=some (.iface te1 pe1)) (hR:w.cell? ⟨8,0,none⟩=some (.iface te2 pe2)):
 Calls Tryz.prog 110 #[.string r] w fun e w'=>e = .returned (.int .i64 (nsz r))∧Below w.heap.size w w':=by
 have HRUN:=hide (runSize_any r w hs)
 have hle:=run_le r 0 (by omega)
 have hpos:0<run r 0:=by
  rcases Nat.eq_zero_or_pos (run r 0) with g|g
  ·have:=run_end r 0
   rw[g]at this
   exact absurd ⟨by omega,(isR_iff _).2 (.inr hd)⟩ this
  ·exact g
 have hz:(r.extract 0 (run r 0)).size=run r 0:=by rw[size_ext2 r 0 _ (by omega)];omega
 have hlist:(r.extract 0 (run r 0)).data.toList=(r.data.toList.drop 0).take (run r 0):=by rw[Lib.extract_eq];simp
 have hnv:=nvl_nval r (run r 0) 0 0 (by omega)
 rw[← hlist]at hnv
 have hhead:∃c t,(r.extract 0 (run r 0)).data.toList=c::t∧isD c.toNat=true:=by
  cases e:(r.extract 0 (run r 0)).data.toList with
  |nil=>rw[Lib.size_eq,e]at hz;simp at hz;omega
  |cons c t=>
   refine⟨c,t,rfl,?_⟩
   have hg:=glist (r.extract 0 (run r 0)) 0 (by omega)
   rw[e]at hg
   have hc:c=(r.extract 0 (run r 0)).get! 0:=by simpa using hg
   rw[hc,get!_pre r _ 0 (by omega) hpos];exact hd
 have hat:=atoi_num _ hhead
 rw[hnv]at hat
 have HNS:Hid (nsz r=if nval r (run r 0) 0 0<0 then 0 else run r 0):=rfl
 obtain⟨n,hn⟩:∃n,run r 0=n:=⟨_,rfl⟩
 rw[hn]at HRUN hle hpos hz hat HNS
 obtain⟨x,hx⟩:∃x,r.extract 0 n=x:=⟨_,rfl⟩
 rw[hx]at hat hz
 obtain⟨V,hV⟩:∃V,nval r n 0 0=V:=⟨_,rfl⟩
 rw[hV]at hat HNS
 have HAT:=hide hat
 have HE:=hide hE
 have HRG:=hide hR
 clear hd hlist hnv hhead hn hV hat hE hR
 have hxs:x.size≤1048576:=by omega
 have HKE:Hid (∀w1,Below w.heap.size w w1→w1.cell? ⟨7,0,none⟩=some (.iface te1 pe1)):=fun w1 hb=>by rw[hb.cell (p:=⟨7,0,none⟩) (World.block_lt_of_cell? _ _ HE.out)];exact HE.out
 have HKR:Hid (∀w1,Below w.heap.size w w1→w1.cell? ⟨8,0,none⟩=some (.iface te2 pe2)):=fun w1 hb=>by rw[hb.cell (p:=⟨8,0,none⟩) (World.block_lt_of_cell? _ _ HRG.out)];exact HRG.out
 have HERR:Hid (∀w1,Below w.heap.size w w1→(Lib.atoiAll x.data.toList = .syntax∨Lib.atoiAll x.data.toList = .range)→Calls Tryz.prog 132 #[.string x] w1 fun e w'=>(∃k N,e = .returned (.tuple #[.int .i64 k,.iface 197 (.pointer (some ⟨N,0,none⟩))]))∧Below w1.heap.size w1 w'):=fun w1 hb h=>by
  rcases h with h|h
  ·refine (Tryz.strconv_Atoi_syntax x (by omega) h _ w1 (HKE.out w1 hb) (.inr ⟨te1,pe1,rfl⟩)).mono ?_
   rintro e w' ⟨N,rfl,_,_,hb'⟩
   exact⟨⟨_,N,rfl⟩,hb'⟩
  ·refine (Tryz.strconv_Atoi_range x (by omega) h _ w1 (HKR.out w1 hb) (.inr ⟨te2,pe2,rfl⟩)).mono ?_
   rintro e w' ⟨N,rfl,_,_,hb'⟩
   exact⟨⟨_,N,rfl⟩,hb'⟩
 have HOK:Hid (∀(u:Nat) w1,Lib.atoiAll x.data.toList = .ok (u:Int)→Calls Tryz.prog 132 #[.string x] w1 fun e w'=>e = .returned (.tuple #[.int .i64 u,.nilIface])∧Below w1.heap.size w1 w'):=fun u w1 h=>by
  refine (Tryz.strconv_Atoi_ok x (by omega) u h w1).mono ?_
  rintro e w' ⟨rfl,h|⟨t,h⟩⟩
  ·rw[h];exact⟨rfl,Below.refl _ _⟩
  ·rw[h];exact⟨rfl,below_bytes w1 t⟩
 by_cases hneg:V<0
 ·have HNZ:Hid (nsz r=0):=by show _=_;rw[HNS.out,if_pos hneg]
  rcases HAT.out.2 hneg with⟨u,hu,hu2⟩|herr
  ·have t1:decide ((99999:Int)<(u:Int))=true:=decide_eq_true (by omega)
   have HU:=hide (fun w1=>HOK.out u w1 hu)
   clear hneg hu hu2 HOK HERR HKE HKR HAT HNS
   go_enter Tryz.func110,Tryz.ntmps110
   go_wp2_with fail
   refine HRUN.out.mono ?_
   rintro e w1 ⟨rfl,hb1⟩
   have HB1:=hide hb1
   have HS1:=hide hb1.size
   clear hb1
   go_wp2_with fail
   refine (HU.out _).mono ?_
   rintro e w2 ⟨rfl,hb2⟩
   have HB2:=hide (HB1.out.trans (hb2.mono HS1.out))
   clear hb2
   go_wp2
   go_ret
   exact⟨by rw[HNZ.out];rfl,HB2.out⟩
  ·have HU:=hide (fun w1 hb=>HERR.out w1 hb herr)
   clear hneg herr HOK HERR HKE HKR HAT HNS
   go_enter Tryz.func110,Tryz.ntmps110
   go_wp2_with fail
   refine HRUN.out.mono ?_
   rintro e w1 ⟨rfl,hb1⟩
   have HB1:=hide hb1
   have HS1:=hide hb1.size
   clear hb1
   go_wp2_with fail
   refine (HU.out _ HB1.out).mono ?_
   rintro e w2 ⟨⟨k,N,rfl⟩,hb2⟩
   have HB2:=hide (HB1.out.trans (hb2.mono HS1.out))
   clear hb2
   go_wp2
   go_ret
   exact⟨by rw[HNZ.out];rfl,HB2.out⟩
 ·have HNZ:Hid (nsz r=n):=by show _=_;rw[HNS.out,if_neg hneg]
  obtain⟨u,hu,hu2⟩:=HAT.out.1 (by omega)
  have t1:decide ((99999:Int)<(u:Int))=false:=decide_eq_false (by omega)
  have HU:=hide (fun w1=>HOK.out u w1 hu)
  clear hneg hu HOK HERR HKE HKR HAT HNS
  go_enter Tryz.func110,Tryz.ntmps110
  go_wp2_with fail
  refine HRUN.out.mono ?_
  rintro e w1 ⟨rfl,hb1⟩
  have HB1:=hide hb1
  have HS1:=hide hb1.size
  clear hb1
  go_wp2_with fail
  refine (HU.out _).mono ?_
  rintro e w2 ⟨rfl,hb2⟩
  have HB2:=hide (HB1.out.trans (hb2.mono HS1.out))
  clear hb2
  go_wp2
  go_ret
  exact⟨by rw[HNZ.out];rfl,HB2.out⟩
theorem one_index (c:UInt8):decide (0≤Lib.indexByte [40,41,123,125,44,59,61,60,62,38,43,45,42,47,37,33] c)=sl1.contains c:=(Lib.contains_iff_indexByte sl1 c).symm
set_option maxHeartbeats 2000000 in
set_option maxRecDepth 1000000 in
theorem signSize_two (r:ByteArray)(w:World)(hs:r.size≤1048576)(h2:2≤r.size):
 Calls Tryz.prog 112 #[.string r] w fun e w'=>e = .returned (.int .i64 (sg r 0))∧w'=w:=by
 have hl2:=list_two r 0 (by omega)
 have hoi:=one_index (r.get! 0)
 have hsg:sg r 0=if sl2.any (fun l=>(r.extract 0 (0+2)).toList==l)=true then 2 else if sl1.contains (r.get! 0)=true then 1 else 0:=by
  have e:sl2.contains [r.get! 0,r.get! (0+1)]=sl2.any (fun l=>(r.extract 0 (0+2)).toList==l):=by
   rw[hl2,Bool.eq_iff_iff,List.contains_iff_mem,List.any_eq_true]
   constructor
   ·intro h;exact⟨_,h,by simp⟩
   ·rintro⟨l,h1,h2⟩;rw[eq_of_beq h2];exact h1
  unfold sg
  rw[e]
  by_cases c:sl2.any (fun l=>(r.extract 0 (0+2)).toList==l)=true
  ·rw[if_pos ⟨by omega,c⟩,if_pos c]
  ·rw[if_neg (fun g=>c g.2),if_neg c]
 have HSG:=hide hsg
 have hg0:=Utf8W.get!_of_lt r 0 (by omega)
 obtain⟨x,hx⟩:∃x,r[0]'(by omega)=x:=⟨_,rfl⟩
 rw[hx]at hg0
 rw[hg0]at hoi HSG
 have hcx:((x.toNat:Int)).toNat.toUInt8=x:=by simp
 have HIB:=fun w=>ib_is ⟨#[40,41,123,125,44,59,61,60,62,38,43,45,42,47,37,33]⟩ (x.toNat:Int) (Lib.indexByte [40,41,123,125,44,59,61,60,62,38,43,45,42,47,37,33] x) (by rw[hcx]) w
 obtain⟨i,hi⟩:∃i,Lib.indexByte [40,41,123,125,44,59,61,60,62,38,43,45,42,47,37,33] x=i:=⟨_,rfl⟩
 rw[hi]at HIB hoi
 have HIB':=hide HIB
 obtain⟨z,hz⟩:∃z,r.extract 0 2=z:=⟨_,rfl⟩
 rw[show (0:Nat)+2=2 from rfl,hz]at HSG
 have HOI:=hide hoi
 clear hl2 hoi hsg hg0 hcx HIB hi
 have t0:decide ((2:Int)≤(r.size:Int))=true:=decide_eq_true (by omega)
 cases hone:sl1.contains x with
 |true=>
  have t1:decide (0≤i)=true:=HOI.out.trans hone
  rw[hone]at HSG
  clear hone HOI
  go_enter Tryz.func112,Tryz.ntmps112
  go_wp2_with (go_at_call 130;refine (HIB'.out _).mono ?_;rintro e w' ⟨rfl,rfl⟩)
  all_goals go_ret
  all_goals refine⟨ret_int ?_,rfl⟩
  all_goals rw[HSG.out]
  all_goals simp only[sl2,List.any_cons,List.any_nil]
  all_goals simp_all
 |false=>
  have t1:decide (0≤i)=false:=HOI.out.trans hone
  rw[hone]at HSG
  clear hone HOI
  go_enter Tryz.func112,Tryz.ntmps112
  go_wp2_with (go_at_call 130;refine (HIB'.out _).mono ?_;rintro e w' ⟨rfl,rfl⟩)
  all_goals go_ret
  all_goals refine⟨ret_int ?_,rfl⟩
  all_goals rw[HSG.out]
  all_goals simp only[sl2,List.any_cons,List.any_nil]
  all_goals simp_all
end Go.Proofs.YtbiakdjpeblclaaGreatDoor

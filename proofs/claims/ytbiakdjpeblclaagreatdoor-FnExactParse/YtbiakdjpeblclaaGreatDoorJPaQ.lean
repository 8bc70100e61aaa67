/-
  The walks of impl.isBroken and impl.CheckText.
-/
import Derived.Test.YtbiakdjpeblclaaGreatDoorJPaQPL
import Derived.Test.YtbiakdjpeblclaaGreatDoorJPaShelf
import Derived.Test.YtbiakdjpeblclaaGreatDoorJPaE
import Derived.Lib.OthersKept
import Derived.Test.YtbiakdjpeblclaaGreatDoorJPaLX
import Derived.Lib.ConvBytes
import Derived.Shelf.Unicode.DecodeSlow
namespace Go.Proofs.YtbiakdjpeblclaaGreatDoor
open Go.RowKit
theorem chr_dec {s:ByteArray}{p:Nat}(h:(chr s p).1≠0):Utf8.decode s p=((chr s p).2,(chr s p).1):=by
 unfold chr at h ⊢
 by_cases c:(Utf8.decode s p).1=65533∧(Utf8.decode s p).2=1
 ·rw[if_pos c]at h;exact absurd rfl h
 ·rw[if_neg c]
theorem decode_extract (s:ByteArray)(i:Nat)(h:i<s.size):Lib.decodeGo (s.extract i s.size)=Utf8.decode s i:=by
 have hz:(s.extract i s.size).size=s.size - i:=by rw[ByteArray.size_extract];omega
 unfold Lib.decodeGo
 rw[if_neg (by omega),Lib.decode_at,Lib.decode_at,get!_extract,get!_extract,get!_extract,get!_extract,hz]
 simp
set_option maxHeartbeats 400000 in
set_option maxRecDepth 1000000 in
theorem broken_any (s:ByteArray)(w:World)(hT:Lib.Utf8Tabs 3 4 w):
 Calls Tryz.prog 74 #[.string s] w fun e w'=>e = .returned (.bool (((Lib.decodeGo s).2:Int)==1))∧Below w.heap.size w w':=by
 have H:=hide (Tryz.utf8_DecodeRuneInString s w hT)
 go_enter Tryz.func74,Tryz.ntmps74
 go_wp2_with (go_at_call 103;refine H.out.mono ?_;rintro e w1 ⟨rfl,hb1⟩)
 go_ret
 exact⟨rfl,hb1⟩
theorem width_pos (s:ByteArray)(pos:Nat)(h:pos<s.size):1≤(Utf8.decode s pos).2:=by
 by_cases ha:(s[pos]'h).toNat<128
 ·rw[decode_ascii s pos h ha]
  exact Nat.le_refl _
 ·exact (decode_high s pos h (by omega)).2
theorem iterPos_of {wn:World}{k:Nat}{s:ByteArray}{p:Nat}(h:wn.heap[k]?=some (.stringIter s p)):wn.iterPos k=p:=by simp[World.iterPos,h]
theorem below_iterAt {B:Nat}{a w:World}(h:Below B a w){k:Nat}(hk:B≤k)(s:ByteArray)(p:Nat):Below B a (w.iterAt k s p):=
 h.trans ⟨rfl,rfl,rfl,by simp[World.iterAt],fun j hj=>by simp only[World.iterAt];rw[Array.getElem?_setIfInBounds_ne (by omega)]⟩
set_option maxHeartbeats 400000 in
set_option maxRecDepth 1000000 in
theorem implCheck_val (v:Value)(s:ByteArray)(w:World)(hs:s.size≤1048576)(hT:Lib.Utf8Tabs 3 4 w)(hcv:(convert 22 9 v).run Tryz.prog w = .ok (.string s) w):
 Calls Tryz.prog 47 #[v] w fun e w'=>e = .returned (pairVal (chk s))∧Below w.heap.size w w':=by
 have HT:=hide hT
 clear hT
 go_enter Tryz.func47,Tryz.ntmps47
 go_wp2
 clear hcv
 go_loopw [5] (fun _ wr=>∃p f:Nat,wr.heap[w.heap.size]?=some (.stringIter s p)∧p≤s.size+4∧s.size<p+f∧chkAt s f p=chk s∧Below w.heap.size w wr) (fun _ wr=>s.size - wr.iterPos w.heap.size)
 case atStart=>exact⟨0,s.size+1,World.iter_heap w s 0,by omega,by omega,rfl,(Below.refl _ _).alloc (Nat.le_refl _) _⟩
 case round=>
  obtain⟨p,f,hit,hp,hf,hk,hbl⟩:=hrel
  have HK:=hide hk
  clear hk
  have hpos:=iterPos_of hit
  have HPOS:=hide hpos
  clear hpos
  by_cases hlt:p<s.size
  ·have hnx:∀ty,(Instr.next (.pointer (some ⟨w.heap.size,0,none⟩)) true ty).run Tryz.prog wr=_:=fun ty=>Lib.run_next_any_at wr w.heap.size s p ty hit hlt
   have hit2:=Lib.iterAt_heap wr w.heap.size s p (p+(Utf8.decode s p).2) hit
   have hb2:=below_iterAt hbl (Nat.le_refl _) s (p+(Utf8.decode s p).2)
   have hdx:=decode_extract s p hlt
   have hcr:chr s p=pick (Utf8.decode s p):=rfl
   have hdl:=decode_le s p
   have hwd:=width_pos s p hlt
   obtain⟨r,d,hd⟩:∃r d,Utf8.decode s p=(r,d):=⟨_,_,rfl⟩
   rw[hd]at hnx hit2 hb2 hdx hcr hdl hwd
   simp only at hnx hit2 hb2 hdl hwd
   generalize wr.iterAt w.heap.size s (p+d)=wn at *
   clear hd
   by_cases hr:r=65533
   ·have hrb:((r:Int)==65533)=true:=by rw[beq_iff_eq];omega
    have H9:=broken_any (s.extract p s.size) wn (Utf8Tabs_below HT.out hb2)
    rw[hdx]at H9
    simp only at H9
    have HR:Hid (r=65533):=hr
    clear hr hdx
    have HIT:=hide hit2
    have HB2:=hide hb2
    have hwn:w.heap.size<wn.heap.size:=(Array.getElem?_eq_some_iff.1 hit2).1
    clear hit hit2 hb2
    by_cases hd1:d=1
    ·have hdb:((d:Int)==1)=true:=by rw[beq_iff_eq];omega
     rw[hdb]at H9
     have H9':=hide H9
     have HZ:Hid (chk s=(2,p)):=by
      show _=_
      rw[← HK.out]
      refine chkAt_bad hlt hf ?_
      rw[hcr];unfold pick;rw[if_pos ⟨HR.out,hd1⟩]
     clear H9 hcr hd1 hdb
     go_wp2_with (go_at_call 74;refine H9'.out.mono ?_;rintro e w1 ⟨rfl,hb1⟩)
     go_ret2
     exact⟨by rw[pairVal_of HZ.out];rfl,HB2.out.trans (hb1.mono (by omega))⟩
    ·have hdb:((d:Int)==1)=false:=by rw[beq_eq_false_iff_ne];omega
     rw[hdb]at H9
     have H9':=hide H9
     have HC:Hid (chr s p=(d,r)):=by show _=_;rw[hcr];unfold pick;rw[if_neg (fun g=>hd1 g.2)]
     obtain⟨g,hg,hgk⟩:=chkAt_good hlt hf (by rw[HC.out];show d≠0;omega)
     have HG:Hid (chkAt s g (p+d)=chk s):=by show _=_;rw[← HK.out,hgk,HC.out]
     have hd4:d≤4:=by have:=chr_le s p;rw[HC.out]at this;exact this
     have hg1:f≤g+1:=by omega
     clear H9 hcr hd1 hdb hgk hg
     go_wp2_with (go_at_call 74;refine H9'.out.mono ?_;rintro e w1 ⟨rfl,hb1⟩)
     go_roundw
     case rel=>exact⟨p+d,g,(hb1.block _ hwn).trans HIT.out,by omega,by omega,HG.out,HB2.out.trans (hb1.mono (by omega))⟩
     case measure=>rw[iterPos_of ((hb1.block _ hwn).trans HIT.out),HPOS.out];omega
   ·have hrb:((r:Int)==65533)=false:=by rw[beq_eq_false_iff_ne];omega
    have HC:Hid (chr s p=(d,r)):=by show _=_;rw[hcr];unfold pick;rw[if_neg (fun g=>hr g.1)]
    obtain⟨g,hg,hgk⟩:=chkAt_good hlt hf (by rw[HC.out];show d≠0;omega)
    have HG:Hid (chkAt s g (p+d)=chk s):=by show _=_;rw[← HK.out,hgk,HC.out]
    have hd4:d≤4:=by have:=chr_le s p;rw[HC.out]at this;exact this
    have HIT:=hide hit2
    have HB2:=hide hb2
    have hg1:f≤g+1:=by omega
    clear hr hcr hgk hdx hit hit2 hb2 hg
    go_wp2
    go_roundw
    case rel=>exact⟨p+d,g,HIT.out,by omega,by omega,HG.out,HB2.out⟩
    case measure=>rw[iterPos_of HIT.out,HPOS.out];omega
  ·have hnx:∀ty,(Instr.next (.pointer (some ⟨w.heap.size,0,none⟩)) true ty).run Tryz.prog wr=_:=fun ty=>Lib.run_next_end_at wr w.heap.size s p ty hit hlt
   have HZ:Hid (chk s=(0,0)):=by rw[← HK.out];exact chkAt_end hlt
   clear hit
   go_wp2
   go_ret2
   exact⟨by rw[pairVal_of HZ.out];rfl,hbl⟩
theorem implCheck_any (b off cap:Nat)(s:ByteArray)(w:World)(hs:s.size≤1048576)(hT:Lib.Utf8Tabs 3 4 w)(hc:∀j,j<s.size→w.cell? ⟨b,off+j,none⟩=some (bts s j)):
 Calls Tryz.prog 47 #[.slice (some ⟨b,off,none⟩) s.size cap] w fun e w'=>e = .returned (pairVal (chk s))∧Below w.heap.size w w':=
 implCheck_val _ s w hs hT (toStr_run s w b off cap hc)
set_option maxHeartbeats 400000 in
set_option maxRecDepth 1000000 in
theorem isDigit_any (r:Nat)(w:World)(hr:r≤2147483647):
 Calls Tryz.prog 105 #[.int .i32 r] w fun e w'=>e = .returned (.bool (isD r))∧w'=w:=by
 go_enter Tryz.func105,Tryz.ntmps105
 go_wp2
 all_goals go_ret
 all_goals exact⟨ret_bool (by unfold isD;symm;first|(rw[decide_eq_true_iff];omega)|(rw[decide_eq_false_iff_not];omega)|(rw[decide_eq_decide];omega)|(rw[Bool.eq_iff_iff];simp;omega)),rfl⟩
set_option maxHeartbeats 400000 in
set_option maxRecDepth 1000000 in
theorem isRunRune_any (r:Nat)(w:World)(hr:r≤2147483647):
 Calls Tryz.prog 106 #[.int .i32 r] w fun e w'=>e = .returned (.bool (isR r))∧w'=w:=by
 have HD:=hide (fun w=>isDigit_any r w hr)
 have HR:Hid (isR r=(isL r||isD r)):=rfl
 have HL:=hide (isL_iff r)
 cases hd:isD r with
 |true=>
  rw[hd]at HD HR
  go_enter Tryz.func106,Tryz.ntmps106
  go_wp2_with (go_at_call 105;refine (HD.out _).mono ?_;rintro e w' ⟨rfl,rfl⟩)
  go_ret
  exact⟨ret_bool (by rw[HR.out,Bool.or_true]),rfl⟩
 |false=>
  rw[hd,Bool.or_false]at HR
  rw[hd]at HD
  clear hd
  go_enter Tryz.func106,Tryz.ntmps106
  go_wp2_with (go_at_call 105;refine (HD.out _).mono ?_;rintro e w' ⟨rfl,rfl⟩)
  all_goals go_ret
  all_goals exact⟨ret_bool (by rw[HR.out];unfold isL;symm;first|(rw[decide_eq_true_iff];omega)|(rw[decide_eq_false_iff_not];omega)|(rw[Bool.eq_iff_iff];simp;omega)),rfl⟩
theorem decode_low {s:ByteArray}{p:Nat}(h:(s.get! p).toNat<128):Utf8.decode s p=((s.get! p).toNat,1):=by
 have h0:bk s p 0<128:=h
 have e:=chr_ascii s p h0
 rw[chr_dec (by rw[e];simp),e];rfl
theorem decode_high {s:ByteArray}{p:Nat}(h:128≤(s.get! p).toNat):128≤(Utf8.decode s p).1:=by
 rw[Lib.decode_at]
 unfold Lib.decodeN
 repeat' split
 all_goals (try simp only)
 all_goals omega
theorem isR_decode (s:ByteArray)(p:Nat):isR (Utf8.decode s p).1=isR (s.get! p).toNat:=by
 by_cases h:(s.get! p).toNat<128
 ·rw[decode_low h]
 ·have h1:=decode_high (s:=s) (p:=p) (by omega)
  have a:isR (s.get! p).toNat=false:=by rw[Bool.eq_false_iff];intro g;exact h (isR_low g)
  have b:isR (Utf8.decode s p).1=false:=by rw[Bool.eq_false_iff];intro g;have:=isR_low g;omega
  rw[a,b]
set_option maxHeartbeats 1000000 in
set_option maxRecDepth 1000000 in
theorem runSize_any (s:ByteArray)(w:World)(_hs:s.size≤1048576):
 Calls Tryz.prog 109 #[.string s] w fun e w'=>e = .returned (.int .i64 (run s 0))∧Below w.heap.size w w':=by
 go_enter Tryz.func109,Tryz.ntmps109
 go_wp2
 go_loopw [3] (fun _ wr=>∃p:Nat,wr.heap[w.heap.size]?=some (.stringIter s p)∧p≤s.size∧(∀j,j<p→isR (s.get! (0+j)).toNat=true)∧Below w.heap.size w wr) (fun _ wr=>s.size - wr.iterPos w.heap.size)
 case atStart=>exact⟨0,World.iter_heap w s 0,Nat.zero_le _,fun j hj=>absurd hj (Nat.not_lt_zero _),(Below.refl _ _).alloc (Nat.le_refl _) _⟩
 case round=>
  obtain⟨p,hit,hp,hall,hbl⟩:=hrel
  have HALL:=hide hall
  have HPOS:=hide (iterPos_of hit)
  clear hall
  by_cases hlt:p<s.size
  ·have hnx:∀ty,(Instr.next (.pointer (some ⟨w.heap.size,0,none⟩)) true ty).run Tryz.prog wr=_:=fun ty=>Lib.run_next_any_at wr w.heap.size s p ty hit hlt
   have hit2:=Lib.iterAt_heap wr w.heap.size s p (p+(Utf8.decode s p).2) hit
   have hb2:=below_iterAt hbl (Nat.le_refl _) s (p+(Utf8.decode s p).2)
   have hir:=isR_decode s p
   have hdl:=decode_le s p
   have hlo:isR (s.get! p).toNat=true→(Utf8.decode s p).2=1:=fun g=>by rw[decode_low (isR_low g)]
   obtain⟨r,d,hd⟩:∃r d,Utf8.decode s p=(r,d):=⟨_,_,rfl⟩
   rw[hd]at hnx hit2 hb2 hir hdl hlo
   simp only at hnx hit2 hb2 hir hdl hlo
   generalize wr.iterAt w.heap.size s (p+d)=wn at *
   have HRR:=fun w=>isRunRune_any r w (by omega)
   have HB2:=hide hb2
   have HIT:=hide hit2
   clear hd hit hit2 hb2
   cases hr:isR (s.get! p).toNat with
   |true=>
    rw[hir,hr]at HRR
    have hd1:=hlo hr
    have HR:Hid (isR (s.get! (0+p)).toNat=true):=by show _=_;rw[Nat.zero_add];exact hr
    have HRR':=hide HRR
    clear hlo hir hr HRR
    subst hd1
    go_wp2_with fail
    refine (HRR'.out _).mono ?_
    rintro e w' ⟨rfl,hw⟩
    subst hw
    go_wp2
    go_roundw
    case rel=>exact⟨p+1,HIT.out,by omega,fun j hj=>by
     by_cases e:j=p
     ·rw[e];exact HR.out
     ·exact HALL.out j (by omega),HB2.out⟩
    case measure=>rw[iterPos_of HIT.out,HPOS.out];omega
   |false=>
    rw[hir,hr]at HRR
    have HR:Hid (run s 0=p):=run_is (by omega) HALL.out (fun g=>by rw[Nat.zero_add]at g;have:=g.2;rw[hr]at this;cases this)
    have HRR':=hide HRR
    clear hlo hir hr HRR
    go_wp2_with fail
    refine (HRR'.out _).mono ?_
    rintro e w' ⟨rfl,hw⟩
    subst hw
    go_wp2
    go_ret
    exact⟨by rw[HR.out];rfl,HB2.out⟩
  ·have hnx:∀ty,(Instr.next (.pointer (some ⟨w.heap.size,0,none⟩)) true ty).run Tryz.prog wr=_:=fun ty=>Lib.run_next_end_at wr w.heap.size s p ty hit hlt
   have HR:Hid (run s 0=s.size):=run_is (by omega) (fun j hj=>HALL.out j (by omega)) (fun g=>by omega)
   clear hit
   go_wp2
   go_ret
   exact⟨by rw[HR.out];rfl,hbl⟩
def lowN (c:Nat):Nat:=if c / 32 % 2=1 then c else c+32
theorem or32 : ∀c:Fin 256,bits BinOp.or IntKind.u8 ((c.val:Nat):Int) 32=((lowN c.val:Nat):Int):=by decide +kernel
theorem cls : ∀c:Fin 256,¬(48≤c.val∧c.val≤57)→(if 97≤lowN c.val∧lowN c.val≤122 then (if lowN c.val - 87<16 then hd c.val=((lowN c.val - 87:Nat):Int) else hd c.val = -1) else hd c.val = -1):=by decide +kernel
set_option maxHeartbeats 400000 in
set_option maxRecDepth 1000000 in
theorem lower_any (c:Nat)(w:World)(hc:c<256):Calls Tryz.prog 178 #[.int .u8 c] w fun e w'=>e = .returned (.int .u8 (lowN c:Nat))∧w'=w:=by
 have h:=or32 ⟨c,hc⟩
 simp only at h
 go_enter Tryz.func178,Tryz.ntmps178
 go_wp2
 go_ret
 exact⟨rfl,rfl⟩
theorem lowN_lt {c:Nat}(h:c<256):lowN c<256:=by unfold lowN;split<;>omega
theorem hv_small (s:ByteArray)(k:Nat)(hk:k≤6):hv s 0 k<16777216:=by
 have h:=hv_lt s 0 k
 have:16 ^ k≤16 ^ 6:=Nat.pow_le_pow_right (by omega) hk
 omega
def puRes (s:ByteArray)(j0:Nat):Value:=if j0=s.size then .tuple #[.int .u64 (hv s 0 s.size),.nilIface] else .tuple #[.int .u64 0,.iface 194 (.int .i64 2)]
theorem puRes_ok {s:ByteArray}{j0 k V:Nat}(h:j0=s.size)(hk:k=s.size)(hv':hv s 0 k=V):puRes s j0 = .tuple #[.int .u64 V,.nilIface]:=by unfold puRes;rw[if_pos h,← hk,hv']
theorem puRes_no {s:ByteArray}{j0:Nat}(h:j0≠s.size):puRes s j0 = .tuple #[.int .u64 0,.iface 194 (.int .i64 2)]:=by unfold puRes;rw[if_neg h]
set_option maxHeartbeats 1000000 in
set_option maxRecDepth 1000000 in
theorem pu16_any (s:ByteArray)(w:World)(j0:Nat)(h1:1≤s.size)(h6:s.size≤6)(hj:j0≤s.size)(hall:∀j,j<j0→0≤hd (s.get! j).toNat)(hend:j0=s.size∨hd (s.get! j0).toNat = -1):
 Calls Tryz.prog 170 #[.string s,.int .i64 16,.int .i64 32] w fun e w'=>e = .returned (puRes s j0)∧Below w.heap.size w w':=by
 have hne:s.toList.isEmpty=false:=by
  rw[Lib.toList_data]
  cases h:s.data.toList with
  |nil=>exact absurd (by rw[Lib.size_eq,h];rfl) (show ¬s.size=0 by omega)
  |cons _ _=>rfl
 have hcv:=Lib.run_convert_string_bytes (P:=Tryz.prog) w 9 22 5 s Tryz.underlying9 Tryz.underlying22 Tryz.underlying5
 have HB:Hid (Below w.heap.size w (Lib.bytesWorld w 5 s)):=⟨rfl,rfl,rfl,by rw[Lib.bytesWorld_size];omega,fun j hj=>Lib.bytesWorld_at_old w 5 s j hj⟩
 have HC:Hid (∀j,j<s.size→(Lib.bytesWorld w 5 s).cell? ⟨w.heap.size,j,none⟩=some (.int .u8 ((s.get! j).toNat:Int))):=fun j hj=>by
  rw[Lib.bytesWorld_cell w 5 s j hj,Utf8W.get!_of_lt s j hj]
  have h':j<s.data.size:=hj
  simp only[List.getD]
  rw[Array.getElem?_toList,Array.getElem?_eq_getElem h']
  rfl
 have HALL:=hide hall
 have HEND:=hide hend
 generalize Lib.bytesWorld w 5 s=w1 at *
 generalize grownCap w s.size 0 5=cc at *
 clear hall hend
 go_enter Tryz.func170,Tryz.ntmps170
 go_wp2_with fail
 clear hcv hne
 go_loopw [12,13,101] (fun us n ix wr=>∃k:Nat,k≤j0∧us = .bool false∧ix = .int .i64 k∧n = .int .u64 (hv s 0 k)∧wr=w1) (fun _ _ ix _=>s.size - (intOf ix).toNat)
 case atStart=>exact⟨0,Nat.zero_le _,rfl,rfl,rfl,rfl⟩
 case round=>
  obtain⟨k,hk,rfl,rfl,rfl,rfl⟩:=hrel
  have hvl:=hv_small s k (by omega)
  obtain⟨V,hV⟩:∃V,hv s 0 k=V:=⟨_,rfl⟩
  have HV:=hide hV
  rw[hV]at hvl ⊢
  clear hV
  by_cases hlt:k<s.size
  ·have g1:=HC.out k hlt
   have b1:(s.get! k).toNat<256:=(s.get! k).toNat_lt
   have HH:Hid (k<j0→0≤hd (s.get! k).toNat):=fun h=>HALL.out k h
   have HH2:Hid (k=j0→hd (s.get! k).toNat = -1):=fun h=>by
    rcases HEND.out with e|e
    ·omega
    ·rw[h];exact e
   have HVN:Hid (hv s 0 (k+1)=V*16+(hd (s.get! k).toNat).toNat):=by show _=_;rw[hv,HV.out,Nat.zero_add]
   obtain⟨y,hy⟩:∃y:Nat,(s.get! k).toNat=y:=⟨_,rfl⟩
   rw[hy]at g1 b1 HH HH2 HVN
   clear hy
   have HLOW:=hide (fun w=>lower_any y w b1)
   have hll:=lowN_lt b1
   have HCLS:=hide (cls ⟨y,b1⟩)
   by_cases hdig:48≤y∧y≤57
   ·have hhd:hd y=(y:Int) - 48:=by unfold hd;rw[if_pos hdig]
    have hkj:k<j0:=by
     rcases Nat.lt_or_ge k j0 with h|h
     ·exact h
     ·have:=HH2.out (by omega);omega
    have HVN':Hid ((hv s 0 (k+1):Int)=(V:Int)*16+((y:Int) - 48)):=by show _=_;rw[HVN.out,hhd];omega
    obtain⟨hd1,hd2⟩:=hdig
    clear hhd HCLS HLOW
    have c1:(48:Int)≤(y:Int):=by omega
    have c2:(y:Int)≤57:=by omega
    have c3:((y:Int)==95)=false:=by rw[beq_eq_false_iff_ne];omega
    obtain⟨D,hD⟩:∃D:Nat,(y:Int) - 48=(D:Int):=⟨y - 48,by omega⟩
    have hD9:(D:Int)≤9:=by omega
    have t0:decide ((16:Int)≤(D:Int))=false:=decide_eq_false (by omega)
    have t1:decide ((1152921504606846976:Int)≤(V:Int))=false:=decide_eq_false (by omega)
    have t2:decide ((V:Int)*16+(D:Int)<(V:Int)*16)=false:=decide_eq_false (by omega)
    have t3:decide ((4294967295:Int)<(V:Int)*16+(D:Int))=false:=decide_eq_false (by omega)
    have hVi:(V:Int)<16777216:=by omega
    rw[hD]at HVN'
    clear hvl
    go_wp2
    go_roundw
    case rel=>exact⟨k+1,by omega,rfl,by go_num,by rw[HVN'.out],by first|rfl|trivial⟩
    case measure=>simp[intOf];omega
   ·have hcl:=HCLS.out hdig
    simp only at hcl
    have c0:(decide ((48:Int)≤(y:Int))=true∧decide ((y:Int)≤57)=false)∨decide ((48:Int)≤(y:Int))=false:=by
     by_cases h:48≤y
     ·exact .inl ⟨decide_eq_true (by omega),decide_eq_false (by omega)⟩
     ·exact .inr (decide_eq_false (by omega))
    have c3:((y:Int)==95)=false∨((y:Int)==95)=true:=by cases ((y:Int)==95)<;>simp
    have hVi:(V:Int)<16777216:=by omega
    generalize lowN y=z at *
    by_cases hz:97≤z∧z≤122
    ·rw[if_pos hz]at hcl
     obtain⟨hz1,hz2⟩:=hz
     have z1:(97:Int)≤(z:Int):=by omega
     have z2:(z:Int)≤122:=by omega
     by_cases hz16:z - 87<16
     ·rw[if_pos hz16]at hcl
      have hkj:k<j0:=by
       rcases Nat.lt_or_ge k j0 with h|h
       ·exact h
       ·have:=HH2.out (by omega);omega
      obtain⟨D,hD⟩:∃D:Nat,(z:Int) - 97+10=(D:Int):=⟨z - 87,by omega⟩
      have HVN':Hid ((hv s 0 (k+1):Int)=(V:Int)*16+(D:Int)):=by show _=_;rw[HVN.out,hcl];omega
      have hD9:(D:Int)<16:=by omega
      have t0:decide ((16:Int)≤(D:Int))=false:=decide_eq_false (by omega)
      have t1:decide ((1152921504606846976:Int)≤(V:Int))=false:=decide_eq_false (by omega)
      have t2:decide ((V:Int)*16+(D:Int)<(V:Int)*16)=false:=decide_eq_false (by omega)
      have t3:decide ((4294967295:Int)<(V:Int)*16+(D:Int))=false:=decide_eq_false (by omega)
      clear hcl hvl hz1 hz2 hz16 hdig HCLS
      rcases c0 with⟨c1,c2⟩|c1<;>rcases c3 with c3|c3
      all_goals
       go_wp2_with (go_at_call 178;refine (HLOW.out _).mono ?_;rintro e w' ⟨rfl,rfl⟩)
       go_roundw
       case rel=>exact⟨k+1,by omega,rfl,by go_num,by rw[HVN'.out],by first|rfl|trivial⟩
       case measure=>simp[intOf];omega
     ·rw[if_neg hz16]at hcl
      have HJ:Hid (j0≠s.size):=by
       show _≠_
       have:¬k<j0:=fun h=>by have:=HH.out h;omega
       omega
      obtain⟨D,hD⟩:∃D:Nat,(z:Int) - 97+10=(D:Int):=⟨z - 87,by omega⟩
      have hDb:(D:Int)<256:=by omega
      have t0:decide ((16:Int)≤(D:Int))=true:=decide_eq_true (by omega)
      clear hcl hvl hz1 hz2 hz16 hdig HCLS
      rcases c0 with⟨c1,c2⟩|c1<;>rcases c3 with c3|c3
      all_goals
       go_wp2_with (go_at_call 178;refine (HLOW.out _).mono ?_;rintro e w' ⟨rfl,rfl⟩)
       go_ret2
       exact⟨by rw[puRes_no HJ.out];rfl,HB.out⟩
    ·rw[if_neg hz]at hcl
     have HJ:Hid (j0≠s.size):=by
      show _≠_
      have:¬k<j0:=fun h=>by have:=HH.out h;omega
      omega
     have z0:decide ((97:Int)≤(z:Int))=false∨(decide ((97:Int)≤(z:Int))=true∧decide ((z:Int)≤122)=false):=by
      by_cases h:97≤z
      ·exact .inr ⟨decide_eq_true (by omega),decide_eq_false (by omega)⟩
      ·exact .inl (decide_eq_false (by omega))
     clear hcl hvl hz hdig HCLS
     rcases c0 with⟨c1,c2⟩|c1<;>rcases c3 with c3|c3<;>rcases z0 with z1|⟨z1,z2⟩
     all_goals
      go_wp2_with (go_at_call 178;refine (HLOW.out _).mono ?_;rintro e w' ⟨rfl,rfl⟩)
      go_ret2
      exact⟨by rw[puRes_no HJ.out];rfl,HB.out⟩
  ·have HE1:Hid (k=s.size):=by show _=_;omega
   have HE2:Hid (j0=s.size):=by show _=_;omega
   go_wp2
   go_ret2
   exact⟨by rw[puRes_ok HE2.out HE1.out HV.out];rfl,HB.out⟩
set_option maxHeartbeats 1000000 in
set_option maxRecDepth 1000000 in
theorem pu16_empty (w:World):Calls Tryz.prog 170 #[.string ByteArray.empty,.int .i64 16,.int .i64 32] w fun e w'=>e = .returned (.tuple #[.int .u64 0,.iface 194 (.int .i64 2)])∧w'=w:=by
 have hne:ByteArray.empty.toList.isEmpty=true:=by rw[Lib.toList_data];rfl
 go_enter Tryz.func170,Tryz.ntmps170
 go_wp2
 go_ret2
 exact⟨rfl,rfl⟩
def PuEnds (ok:Bool)(v:Nat)(e:Ending):Prop:=(ok=true→e = .returned (.tuple #[.int .u64 v,.nilIface]))∧(ok=false→∃N,e = .returned (.tuple #[.int .u64 0,.iface 197 (.pointer (some ⟨N,0,none⟩))]))
set_option maxHeartbeats 1000000 in
set_option maxRecDepth 1000000 in
theorem parse_bad (s:ByteArray)(w:World)(te:TypeId)(pe:Value)(hs:s.size≤6)(hE:w.cell? ⟨7,0,none⟩=some (.iface te pe))
 (hin:Calls Tryz.prog 170 #[.string s,.int .i64 16,.int .i64 32] w fun e w'=>e = .returned (.tuple #[.int .u64 0,.iface 194 (.int .i64 2)])∧Below w.heap.size w w'):
 Calls Tryz.prog 166 #[.string s,.int .i64 16,.int .i64 32] w fun e w'=>(∃N,e = .returned (.tuple #[.int .u64 0,.iface 197 (.pointer (some ⟨N,0,none⟩))]))∧Below w.heap.size w w':=by
 have HIN:=hide hin
 have HE:=hide hE
 have hlt:7<w.heap.size:=World.block_lt_of_cell? _ _ hE
 clear hin hE
 go_enter Tryz.func166,Tryz.ntmps166
 go_wp2_with fail
 refine HIN.out.mono ?_
 rintro e w1 ⟨rfl,hb1⟩
 have HT:=hide (fun fn=>Tryz.strconv_toError_syntax fn s 16 32 (.iface te pe) w1 (by omega) (by rw[hb1.cell (p:=⟨7,0,none⟩) hlt];exact HE.out) (.inr ⟨te,pe,rfl⟩))
 have HB1:=hide hb1
 have HS:=hide hb1.size
 clear hb1
 go_wp2_with fail
 refine (HT.out _).mono ?_
 rintro e w2 ⟨N,rfl,hN,hcells,hb2⟩
 have HB2:Hid (Below w.heap.size w w2):=HB1.out.trans (hb2.mono HS.out)
 clear hcells hb2
 go_wp2
 go_ret2
 exact⟨⟨N,rfl⟩,HB2.out⟩
set_option maxHeartbeats 1000000 in
set_option maxRecDepth 1000000 in
theorem parse_good (s:ByteArray)(w:World)(v:Nat)
 (hin:Calls Tryz.prog 170 #[.string s,.int .i64 16,.int .i64 32] w fun e w'=>e = .returned (.tuple #[.int .u64 v,.nilIface])∧Below w.heap.size w w'):
 Calls Tryz.prog 166 #[.string s,.int .i64 16,.int .i64 32] w fun e w'=>e = .returned (.tuple #[.int .u64 v,.nilIface])∧Below w.heap.size w w':=by
 have HIN:=hide hin
 clear hin
 go_enter Tryz.func166,Tryz.ntmps166
 go_wp2_with fail
 refine HIN.out.mono ?_
 rintro e w1 ⟨rfl,hb1⟩
 have HB1:=hide hb1
 clear hb1
 go_wp2
 go_ret2
 exact⟨rfl,HB1.out⟩
theorem parse_any (s:ByteArray)(w:World)(te:TypeId)(pe:Value)(h6:s.size≤6)(hE:w.cell? ⟨7,0,none⟩=some (.iface te pe))(ok:Bool)(hok:ok=true↔0<s.size∧∀j,j<s.size→0≤hd (s.get! j).toNat):
 Calls Tryz.prog 166 #[.string s,.int .i64 16,.int .i64 32] w fun e w'=>PuEnds ok (hv s 0 s.size) e∧Below w.heap.size w w':=by
 cases ok with
 |true=>
  obtain⟨h0,hall⟩:=hok.1 rfl
  have h:=pu16_any s w s.size h0 h6 (Nat.le_refl _) hall (.inl rfl)
  refine (parse_good s w (hv s 0 s.size) (h.mono ?_)).mono ?_
  ·rintro e w' ⟨rfl,hb⟩;exact⟨by rw[puRes_ok rfl rfl rfl],hb⟩
  ·rintro e w' ⟨rfl,hb⟩;exact⟨⟨fun _=>rfl,fun g=>absurd g (by decide)⟩,hb⟩
 |false=>
  refine (parse_bad s w te pe h6 hE ?_).mono ?_
  ·by_cases h0:s.size=0
   ·have e:s=ByteArray.empty:=ext_bytes h0 (fun j hj=>by omega)
    rw[e]
    refine (pu16_empty w).mono ?_
    rintro e w' ⟨rfl,rfl⟩
    exact⟨rfl,Below.refl _ _⟩
   ·have hex:∃j,j<s.size∧hd (s.get! j).toNat = -1:=by
     refine Classical.byContradiction fun g=>?_
     have:false=true:=hok.2 ⟨by omega,fun j hj=>by
      have h1:=hd_lt (s.get! j).toNat
      have h2:¬hd (s.get! j).toNat = -1:=fun e=>g ⟨j,hj,e⟩
      omega⟩
     cases this
    have hfirst:∃j,(j<s.size∧hd (s.get! j).toNat = -1)∧∀k,k<j→0≤hd (s.get! k).toNat:=by
     obtain⟨j,hj,e⟩:=hex
     induction j using Nat.strongRecOn with
     |_ j ih=>
      by_cases g:∃k,k<j∧hd (s.get! k).toNat = -1
      ·obtain⟨k,hk,ek⟩:=g
       exact ih k hk (by omega) ek
      ·refine⟨j,⟨hj,e⟩,fun k hk=>?_⟩
       have h1:=hd_lt (s.get! k).toNat
       have h2:¬hd (s.get! k).toNat = -1:=fun e=>g ⟨k,hk,e⟩
       omega
    obtain⟨j,⟨hj,e⟩,hb⟩:=hfirst
    refine (pu16_any s w j (by omega) h6 (by omega) hb (.inr e)).mono ?_
    rintro e w' ⟨rfl,hb⟩
    exact⟨by rw[puRes_no (by omega)],hb⟩
  ·rintro e w' ⟨h,hb⟩;exact⟨⟨fun g=>absurd g (by decide),fun _=>h⟩,hb⟩
theorem hp_is (r p:ByteArray)(b:Bool)(hb:Lib.hasPrefix r.data.toList p.data.toList=b)(w:World):
 Calls Tryz.prog 104 #[.string r,.string p] w fun e w'=>e = .returned (.bool b)∧w'=w:=by
 rw[← hb];exact Tryz.strings_HasPrefix r p w
def rch (r:ByteArray):Nat × Nat:=if (esc r 1).2=0 then (0,0) else (escv r 1,(esc r 1).2+1)
theorem rch_no {r:ByteArray}(h:esc r 1=([],0)):rch r=(0,0):=by unfold rch;rw[h,if_pos rfl]
theorem rch_yes {r:ByteArray}{l:List Nat}{n v:Nat}(h:esc r 1=(l,n))(hn:n≠0)(hv:escv r 1=v):rch r=(v,n+1):=by unfold rch;rw[h,if_neg hn,hv]
set_option maxHeartbeats 1000000 in
set_option maxRecDepth 1000000 in
theorem re_quote (r:ByteArray)(w:World)(h2:2≤r.size)(h0:r.get! 0=92)(h1:r.get! 1=34):
 Calls Tryz.prog 148 #[.string r] w fun e w'=>e = .returned (.tuple #[.int .i32 34,.int .i64 2])∧w'=w:=by
 have H1:=hide (hp_is r ⟨#[92,34]⟩ true (by rw[show (⟨#[92,34]⟩:ByteArray).data.toList = [92,34] from rfl,pre_two];exact decide_eq_true ⟨h2,h0,h1⟩))
 clear h0 h1 h2
 go_enter Tryz.func148,Tryz.ntmps148
 go_wp2_with fail
 refine (H1.out _).mono ?_
 rintro e w' ⟨rfl,rfl⟩
 go_wp2
 go_ret2
 exact⟨rfl,rfl⟩
set_option maxHeartbeats 1000000 in
set_option maxRecDepth 1000000 in
theorem re_back (r:ByteArray)(w:World)(h2:2≤r.size)(h0:r.get! 0=92)(h1:r.get! 1=92):
 Calls Tryz.prog 148 #[.string r] w fun e w'=>e = .returned (.tuple #[.int .i32 92,.int .i64 2])∧w'=w:=by
 have H1:=hide (hp_is r ⟨#[92,34]⟩ false (by rw[show (⟨#[92,34]⟩:ByteArray).data.toList = [92,34] from rfl,pre_two];exact decide_eq_false (fun g=>absurd (h1.symm.trans g.2.2) (by decide))))
 have H2:=hide (hp_is r ⟨#[92,92]⟩ true (by rw[show (⟨#[92,92]⟩:ByteArray).data.toList = [92,92] from rfl,pre_two];exact decide_eq_true ⟨h2,h0,h1⟩))
 clear h0 h1 h2
 go_enter Tryz.func148,Tryz.ntmps148
 go_wp2_with fail
 refine (H1.out _).mono ?_
 rintro e w' ⟨rfl,rfl⟩
 go_wp2_with fail
 refine (H2.out _).mono ?_
 rintro e w' ⟨rfl,rfl⟩
 go_wp2
 go_ret2
 exact⟨rfl,rfl⟩
set_option maxHeartbeats 1000000 in
set_option maxRecDepth 1000000 in
theorem re_none (r t d x:ByteArray)(o c:Bool)(w:World)
 (h1:Lib.hasPrefix r.data.toList [92,34]=false) (h2:Lib.hasPrefix r.data.toList [92,92]=false)
 (hcp:∀w,Calls Tryz.prog 164 #[.string r,.string ⟨#[92,117,123]⟩] w fun e w'=>e = .returned (.tuple #[.string t,.bool o])∧w'=w)
 (hct:Calls Tryz.prog 165 #[.string t,.string ⟨#[125]⟩] w fun e w'=>e = .returned (.tuple #[.string d,.string x,.bool c])∧∃n,w'=w.drewN n)
 (hno:o=false∨o=true∧c=false∨o=true∧c=true∧6<d.size):
 Calls Tryz.prog 148 #[.string r] w fun e w'=>e = .returned (.tuple #[.int .i32 0,.int .i64 0])∧∃n,w'=w.drewN n:=by
 have H1:=hide (hp_is r ⟨#[92,34]⟩ false h1)
 have H2:=hide (hp_is r ⟨#[92,92]⟩ false h2)
 have HCP:=hide hcp
 have HCT:=hide hct
 clear h1 h2 hcp hct
 go_enter Tryz.func148,Tryz.ntmps148
 go_wp2_with fail
 refine (H1.out _).mono ?_
 rintro e w' ⟨rfl,rfl⟩
 go_wp2_with fail
 refine (H2.out _).mono ?_
 rintro e w' ⟨rfl,rfl⟩
 go_wp2_with fail
 refine (HCP.out _).mono ?_
 rintro e w' ⟨rfl,rfl⟩
 go_wp2_with fail
 refine HCT.out.mono ?_
 rintro e w' ⟨rfl,n,rfl⟩
 rcases hno with rfl|⟨rfl,rfl⟩|⟨rfl,rfl,h6⟩
 ·go_wp2
  go_ret2
  exact⟨rfl,n,rfl⟩
 ·go_wp2
  go_ret2
  exact⟨rfl,n,rfl⟩
 ·have t6:decide ((6:Int)<(d.size:Int))=true:=decide_eq_true (by omega)
  clear h6
  go_wp2
  go_ret2
  exact⟨rfl,n,rfl⟩
def reRes (ok vr:Bool)(v n:Nat):Value:=match ok,vr with|true,true=>.tuple #[.int .i32 v,.int .i64 n]|_,_=>.tuple #[.int .i32 0,.int .i64 0]
set_option maxHeartbeats 1000000 in
set_option maxRecDepth 1000000 in
theorem re_some (r t d x:ByteArray)(ok vr:Bool)(v:Nat)(w:World)
 (h1:Lib.hasPrefix r.data.toList [92,34]=false) (h2:Lib.hasPrefix r.data.toList [92,92]=false)
 (hcp:∀w,Calls Tryz.prog 164 #[.string r,.string ⟨#[92,117,123]⟩] w fun e w'=>e = .returned (.tuple #[.string t,.bool true])∧w'=w)
 (hct:Calls Tryz.prog 165 #[.string t,.string ⟨#[125]⟩] w fun e w'=>e = .returned (.tuple #[.string d,.string x,.bool true])∧∃n,w'=w.drewN n)
 (h6:d.size≤6)
 (hpu:∀n,Calls Tryz.prog 166 #[.string d,.int .i64 16,.int .i64 32] (w.drewN n) fun e w'=>PuEnds ok v e∧Below w.heap.size w w')
 (hv:v<16777216) (hvr:Lib.validRune (v:Int)=vr):
 Calls Tryz.prog 148 #[.string r] w fun e w'=>e = .returned (reRes ok vr v (d.size+4))∧Below w.heap.size w w':=by
 have H1:=hide (hp_is r ⟨#[92,34]⟩ false h1)
 have H2:=hide (hp_is r ⟨#[92,92]⟩ false h2)
 have HCP:=hide hcp
 have HCT:=hide hct
 have HPU:=hide hpu
 have HVR:Hid (∀w,Calls Tryz.prog 167 #[.int .i32 v] w fun e w'=>e = .returned (.bool vr)∧w'=w):=fun w=>by rw[← hvr];exact Tryz.utf8_ValidRune v w
 have t6:decide ((6:Int)<(d.size:Int))=false:=decide_eq_false (by omega)
 have hvi:(v:Int)<16777216:=by omega
 clear h1 h2 hcp hct hpu hvr hv
 go_enter Tryz.func148,Tryz.ntmps148
 go_wp2_with fail
 refine (H1.out _).mono ?_
 rintro e w' ⟨rfl,rfl⟩
 go_wp2_with fail
 refine (H2.out _).mono ?_
 rintro e w' ⟨rfl,rfl⟩
 go_wp2_with fail
 refine (HCP.out _).mono ?_
 rintro e w' ⟨rfl,rfl⟩
 go_wp2_with fail
 refine HCT.out.mono ?_
 rintro e w' ⟨rfl,n,rfl⟩
 go_wp2_with fail
 refine (HPU.out n).mono ?_
 rintro e w1 ⟨hpe,hb1⟩
 have HB:=hide hb1
 clear hb1
 cases ok with
 |false=>
  obtain⟨N,rfl⟩:=hpe.2 rfl
  clear hpe
  go_wp2
  go_ret2
  exact⟨rfl,HB.out⟩
 |true=>
  obtain rfl:=hpe.1 rfl
  clear hpe
  go_wp2_with fail
  refine (HVR.out _).mono ?_
  rintro e w' ⟨rfl,rfl⟩
  cases vr with
  |false=>
   go_wp2
   go_ret2
   exact⟨rfl,HB.out⟩
  |true=>
   go_wp2
   go_ret2
   exact⟨ret_vi (v:=.int .i32 v) (by omega),HB.out⟩
theorem below_dn (w:World)(n:Nat):Below w.heap.size w (w.drewN n):=⟨rfl,rfl,rfl,Nat.le_refl _,fun _ _=>rfl⟩
theorem byte_ne {a b:UInt8}(h:a≠b):a.toNat≠b.toNat:=fun e=>h (UInt8.toNat_inj.1 e)
theorem re_any (r:ByteArray)(w:World)(m:Int)(te:TypeId)(pe:Value)(hs:r.size≤1048576)(h1:1≤r.size)(h0:r.get! 0=92)
 (hM:w.cell? ⟨5,0,none⟩=some (.int .i64 m)) (hE:w.cell? ⟨7,0,none⟩=some (.iface te pe)):
 Calls Tryz.prog 148 #[.string r] w fun e w'=>e = .returned (.tuple #[.int .i32 (rch r).1,.int .i64 (rch r).2])∧Below w.heap.size w w':=by
 by_cases hq:2≤r.size∧r.get! 1=34
 ·have e:rch r=(34,2):=by
   refine rch_yes (l:=[34]) (n:=1) ?_ (by decide) ?_
   ·unfold esc;rw[if_neg (by omega),hq.2];rfl
   ·unfold escv;rw[hq.2];rfl
  rw[e]
  refine (re_quote r w hq.1 h0 hq.2).mono ?_
  rintro e w' ⟨rfl,rfl⟩
  exact⟨rfl,Below.refl _ _⟩
 by_cases hb:2≤r.size∧r.get! 1=92
 ·have e:rch r=(92,2):=by
   refine rch_yes (l:=[92]) (n:=1) ?_ (by decide) ?_
   ·unfold esc;rw[if_neg (by omega),hb.2];rfl
   ·unfold escv;rw[hb.2];rfl
  rw[e]
  refine (re_back r w hb.1 h0 hb.2).mono ?_
  rintro e w' ⟨rfl,rfl⟩
  exact⟨rfl,Below.refl _ _⟩
 have p1:Lib.hasPrefix r.data.toList [92,34]=false:=by rw[pre_two];exact decide_eq_false (fun g=>hq ⟨g.1,g.2.2⟩)
 have p2:Lib.hasPrefix r.data.toList [92,92]=false:=by rw[pre_two];exact decide_eq_false (fun g=>hb ⟨g.1,g.2.2⟩)
 have p3:=pre_three r 92 117 123
 have hcp:=fun w=>Tryz.strings_CutPrefix r ⟨#[92,117,123]⟩ w
 have done:∀ {e w'},rch r=(0,0)→(e=Ending.returned (.tuple #[.int .i32 0,.int .i64 0])∧∃n,w'=w.drewN n)→e = .returned (.tuple #[.int .i32 (rch r).1,.int .i64 (rch r).2])∧Below w.heap.size w w':=by
  rintro e w' hr ⟨rfl,n,rfl⟩
  rw[hr]
  exact⟨rfl,below_dn _ n⟩
 by_cases ho:3≤r.size∧r.get! 0=92∧r.get! 1=117∧r.get! 2=123
 ·have po:Lib.hasPrefix r.data.toList (⟨#[92,117,123]⟩:ByteArray).data.toList=true:=by show Lib.hasPrefix r.data.toList [92,117,123]=true;rw[p3];exact decide_eq_true ho
  have pr:=Lib.hasPrefix_raw r ⟨#[92,117,123]⟩
  rw[po,Bool.and_eq_true]at pr
  have et:=Lib.trimPrefix_hit r ⟨#[92,117,123]⟩ (of_decide_eq_true pr.1) pr.2
  rw[et,po]at hcp
  clear et pr po
  have e3:(⟨#[92,117,123]⟩:ByteArray).size=3:=rfl
  rw[e3]at hcp
  obtain⟨t,ht⟩:∃t,r.extract 3 r.size=t:=⟨_,rfl⟩
  have htz:t.size=r.size - 3:=by rw[← ht];exact size_ext r 3 ho.1
  have htg:∀k,t.get! k=r.get! (3+k):=fun k=>by rw[← ht,get!_extract]
  rw[ht]at hcp
  have hct:=Tryz.strings_Cut t ⟨#[125]⟩ m w (by omega) hM
  have h117:(r.get! 1).toNat=117:=by rw[ho.2.2.1];rfl
  have h123:(r.get! (1+1)).toNat=123:=by show (r.get! 2).toNat=123;rw[ho.2.2.2];rfl
  rcases cut_one t 125 with⟨d,hd1,hd2,hd3,hd4,hd5⟩|⟨hn1,hn2⟩
  ·have hct':Calls Tryz.prog 165 #[.string t,.string ⟨#[125]⟩] w fun e w'=>e = .returned (.tuple #[.string (t.extract 0 d),.string ⟨(Lib.cut t.data.toList [125]).2.1.toArray⟩,.bool true])∧∃n,w'=w.drewN n:=by
    refine hct.mono ?_
    rintro e w' ⟨rfl,hn⟩
    refine⟨?_,hn⟩
    show Ending.returned (.tuple #[.string ⟨(Lib.cut t.data.toList [125]).1.toArray⟩,.string ⟨(Lib.cut t.data.toList [125]).2.1.toArray⟩,.bool (Lib.cut t.data.toList [125]).2.2])=_
    rw[hd4,hd5]
   have hdz:(t.extract 0 d).size=d:=by rw[ByteArray.size_extract];omega
   have hbr:=esc_brace (s:=r) (i:=1) (d:=d) (by omega) h117 h123 (by omega) (by
    have e:=htg d
    rw[hd2]at e
    show (r.get! (3+d)).toNat=125
    rw[← e];rfl) (fun j hj=>by
    have e:=htg j
    show (r.get! (3+j)).toNat≠125
    rw[← e];exact byte_ne (b:=125) (hd3 j hj))
   have hhv:hv (t.extract 0 d) 0 d=hv r (1+2) d:=by
    rw[hv_pre t d (by omega) d (Nat.le_refl _),← ht,hv_ext]
   by_cases h6:6<d
   ·refine (re_none r t (t.extract 0 d) _ true true w p1 p2 hcp hct' (.inr (.inr ⟨rfl,rfl,by omega⟩))).mono ?_
    intro e w' g
    exact done (rch_no (hbr.1 (.inl h6))) g
   ·have hkc:=kc_is r (1+2) d (by omega) (by omega) (by
     have e:=htg d
     rw[hd2]at e
     show (r.get! (3+d)).toNat=125
     rw[← e];rfl)
    have hok:decide (kc r (1+2) 7=d∧0<d)=true↔0<(t.extract 0 d).size∧∀j,j<(t.extract 0 d).size→0≤hd ((t.extract 0 d).get! j).toNat:=by
     rw[decide_eq_true_iff,hdz,hkc]
     have gg:∀j,j<d→(t.extract 0 d).get! j=r.get! (1+2+j):=fun j hj=>by rw[get!_pre t d j (by omega) hj,htg]
     constructor
     ·rintro⟨a,b⟩;exact⟨b,fun j hj=>by rw[gg j hj];exact a j hj⟩
     ·rintro⟨a,b⟩;exact⟨fun j hj=>by rw[← gg j hj];exact b j hj,a⟩
    have hlt:=hv_lt r (1+2) d
    have h16:16 ^ d≤16 ^ 6:=Nat.pow_le_pow_right (by omega) (by omega)
    refine (re_some r t (t.extract 0 d) _ (decide (kc r (1+2) 7=d∧0<d)) (pointB (hv r (1+2) d)) (hv r (1+2) d) w p1 p2 hcp hct' (by omega) (fun n=>?_) (by omega) (validRune_point _)).mono ?_
    ·have hp:=parse_any (t.extract 0 d) (w.drewN n) te pe (by omega) (by simpa using hE) _ hok
     rw[hdz,hhv]at hp
     refine hp.mono ?_
     rintro e w' ⟨a,b⟩
     exact⟨a,(below_dn _ n).trans b⟩
    ·rintro e w' ⟨rfl,hb⟩
     refine⟨?_,hb⟩
     rw[hdz]
     by_cases hk:kc r (1+2) 7=d∧0<d
     ·rw[decide_eq_true hk]
      cases hpb:pointB (hv r (1+2) d) with
      |true=>
       have hh:=hbr.2 (by omega) hk.1 hk.2 hpb
       rw[rch_yes hh.1 (by omega) hh.2]
       rfl
      |false=>rw[rch_no (hbr.1 (.inr (.inr (.inr hpb))))];rfl
     ·rw[decide_eq_false hk]
      have:rch r=(0,0):=rch_no (hbr.1 (by
       by_cases e:kc r (1+2) 7=d
       ·exact .inr (.inr (.inl (by
         rcases Nat.eq_zero_or_pos d with z|z
         ·exact z
         ·exact absurd ⟨e,z⟩ hk)))
       ·exact .inr (.inl e)))
      rw[this]
      cases pointB (hv r (1+2) d)<;>rfl
  ·have hct':Calls Tryz.prog 165 #[.string t,.string ⟨#[125]⟩] w fun e w'=>e = .returned (.tuple #[.string ⟨(Lib.cut t.data.toList [125]).1.toArray⟩,.string ⟨(Lib.cut t.data.toList [125]).2.1.toArray⟩,.bool false])∧∃n,w'=w.drewN n:=by
    refine hct.mono ?_
    rintro e w' ⟨rfl,hn⟩
    refine⟨?_,hn⟩
    show Ending.returned (.tuple #[.string ⟨(Lib.cut t.data.toList [125]).1.toArray⟩,.string ⟨(Lib.cut t.data.toList [125]).2.1.toArray⟩,.bool (Lib.cut t.data.toList [125]).2.2])=_
    rw[hn2]
   refine (re_none r t _ _ true false w p1 p2 hcp hct' (.inr (.inl ⟨rfl,rfl⟩))).mono ?_
   intro e w' g
   refine done (rch_no (esc_open (fun j hj=>?_) (by omega))) g
   show (r.get! (3+j)).toNat≠125
   rw[← htg j]
   exact byte_ne (b:=125) (hn1 j (by omega))
 ·have po:Lib.hasPrefix r.data.toList (⟨#[92,117,123]⟩:ByteArray).data.toList=false:=by show Lib.hasPrefix r.data.toList [92,117,123]=false;rw[p3];exact decide_eq_false ho
  have et:=Lib.trimPrefix_miss r ⟨#[92,117,123]⟩ (by rw[Lib.hasPrefix_raw];exact po)
  rw[et,po]at hcp
  have hct:=Tryz.strings_Cut r ⟨#[125]⟩ m w (by omega) hM
  refine (re_none r r _ _ false _ w p1 p2 hcp hct (.inl rfl)).mono ?_
  intro e w' g
  refine done (rch_no ?_) g
  unfold esc
  by_cases c1:r.size≤1
  ·rw[if_pos c1]
  ·have n34:=byte_ne (b:=34) (fun e=>hq ⟨by omega,e⟩)
   have n92:=byte_ne (b:=92) (fun e=>hb ⟨by omega,e⟩)
   rw[if_neg c1,if_neg (by rintro (e|e);exact n34 e;exact n92 e),if_pos]
   by_cases c2:(r.get! 1).toNat=117
   ·by_cases c3:r.size≤2
    ·exact .inr (.inl c3)
    ·refine .inr (.inr (byte_ne (b:=123) (fun e=>ho ⟨by omega,h0,UInt8.toNat_inj.1 (by rw[c2];rfl),e⟩)))
   ·exact .inl c2
end Go.Proofs.YtbiakdjpeblclaaGreatDoor

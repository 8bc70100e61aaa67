/-
  The walk of impl.pieceKind.
-/
import Derived.Test.YtbiakdjpeblclaaGreatDoorJPaQ
import Derived.Test.YtbiakdjpeblclaaGreatDoorJPaRL
import Derived.Test.YtbiakdjpeblclaaGreatDoorJPaDR0
import Derived.Test.YtbiakdjpeblclaaGreatDoorJPaT
import Derived.RangeFuncNested
import Derived.RangeFuncBound
import Derived.RangeFuncCalls
import Derived.RangeFuncLeaves
import Derived.RangeFuncBox
import Derived.Shelf.Abstract
import Derived.Shelf.RegionOpen
import Derived.OwnWalkIn
import Derived.TacticsInMore
import Derived.LoopNIn
import Derived.LoopIn
import Derived.Maps.AppendAt
namespace Go.Proofs.YtbiakdjpeblclaaGreatDoor
open Go.RowKit
theorem hp_at (r p:ByteArray)(b:Bool)(hb:Lib.hasPrefix r.data.toList p.data.toList=b)(w:World):
 Calls Tryz.prog 104 #[.string r,.string p] w fun e w'=>e = .returned (.bool b)∧w'=w:=by
 rw[← hb];exact Tryz.strings_HasPrefix r p w
def pk (r:ByteArray):Nat:=
 if (r.get! 0).toNat=32∨(r.get! 0).toNat=9∨(r.get! 0).toNat=13∨(r.get! 0).toNat=10 then 0
 else if 2≤r.size∧r.get! 0=47∧r.get! 1=47 then 1
 else if 2≤r.size∧r.get! 0=47∧r.get! 1=42 then 2
 else if isD (r.get! 0).toNat=true then 4
 else if isR (r.get! 0).toNat=true then 3
 else if (r.get! 0).toNat=34 then 5 else 6
set_option maxHeartbeats 1000000 in
set_option maxRecDepth 1000000 in
theorem pieceKind_any (r:ByteArray)(w:World)(h1:1≤r.size)(hT:Lib.Utf8Tabs 3 4 w):
 Calls Tryz.prog 76 #[.string r] w fun e w'=>e = .returned (.int .i64 (pk r))∧Below w.heap.size w w':=by
 have hdec:=Tryz.utf8_DecodeRuneInString r w hT
 have hgo:Lib.decodeGo r=Utf8.decode r 0:=by
  have:=decode_extract r 0 (by omega)
  rw[← this]
  congr 1
  refine ext_bytes (by rw[size_ext r 0 (by omega)];omega) (fun j hj=>by rw[get!_extract,Nat.zero_add])
 rw[hgo]at hdec
 have hv:((r.get! 0).toNat<128∧(Utf8.decode r 0).1=(r.get! 0).toNat)∨(128≤(r.get! 0).toNat∧128≤(Utf8.decode r 0).1):=by
  by_cases h:(r.get! 0).toNat<128
  ·exact .inl ⟨h,by rw[decode_low h]⟩
  ·exact .inr ⟨by omega,decode_high (by omega)⟩
 have hmax:=decode_le r 0
 have hir:=isR_decode r 0
 have hid:isD (Utf8.decode r 0).1=isD (r.get! 0).toNat:=by
  rcases hv with⟨_,e⟩|⟨a,b⟩
  ·rw[e]
  ·rw[Bool.eq_iff_iff,isD_iff,isD_iff];omega
 have HP1:=hp_at r ⟨#[47,47]⟩ _ rfl
 have HP2:=hp_at r ⟨#[47,42]⟩ _ rfl
 rw[show (⟨#[47,47]⟩:ByteArray).data.toList = [47,47] from rfl,pre_two]at HP1
 rw[show (⟨#[47,42]⟩:ByteArray).data.toList = [47,42] from rfl,pre_two]at HP2
 have HPK:Hid (pk r=if (r.get! 0).toNat=32∨(r.get! 0).toNat=9∨(r.get! 0).toNat=13∨(r.get! 0).toNat=10 then 0
  else if 2≤r.size∧r.get! 0=47∧r.get! 1=47 then 1
  else if 2≤r.size∧r.get! 0=47∧r.get! 1=42 then 2
  else if isD (r.get! 0).toNat=true then 4
  else if isR (r.get! 0).toNat=true then 3
  else if (r.get! 0).toNat=34 then 5 else 6):=rfl
 obtain⟨v,d,hvd⟩:∃v d,Utf8.decode r 0=(v,d):=⟨_,_,rfl⟩
 rw[hvd]at hdec hv hmax hir hid
 simp only at hdec hv hmax hir hid
 have hvi:(v:Int)≤2147483647:=by omega
 have HD:=isDigit_any v
 have HR:=isRunRune_any v
 rw[hid]at HD
 rw[hir]at HR
 have HDEC:=hide hdec
 obtain⟨c,hc⟩:∃c,(r.get! 0).toNat=c:=⟨_,rfl⟩
 rw[hc]at hv HPK HD HR
 clear hdec hgo hvd hir hid hT
 by_cases hb:c=32∨c=9∨c=13∨c=10
 ·have HK:Hid (pk r=0):=by show _=_;rw[HPK.out,if_pos hb]
  have hvc:v=c:=by omega
  clear HP1 HP2 HPK HD HR hv hc
  subst hvc
  rcases hb with rfl|rfl|rfl|rfl
  all_goals
   go_enter Tryz.func76,Tryz.ntmps76
   go_wp2_with fail
   refine HDEC.out.mono ?_
   rintro e w1 ⟨rfl,hb1⟩
   have HB:=hide hb1
   clear hb1
   go_wp2
   go_ret
   exact⟨by rw[HK.out];rfl,HB.out⟩
 have t1:((v:Int)==32)=false:=by rw[beq_eq_false_iff_ne];omega
 have t2:((v:Int)==9)=false:=by rw[beq_eq_false_iff_ne];omega
 have t3:((v:Int)==13)=false:=by rw[beq_eq_false_iff_ne];omega
 have t4:((v:Int)==10)=false:=by rw[beq_eq_false_iff_ne];omega
 rw[if_neg hb]at HPK
 by_cases hl:2≤r.size∧r.get! 0=47∧r.get! 1=47
 ·have HK:Hid (pk r=1):=by show _=_;rw[HPK.out,if_pos hl]
  rw[decide_eq_true hl]at HP1
  have HP1':=hide HP1
  clear HP1 HP2 HPK HD HR hv hc hl hb
  go_enter Tryz.func76,Tryz.ntmps76
  go_wp2_with fail
  refine HDEC.out.mono ?_
  rintro e w1 ⟨rfl,hb1⟩
  have HB:=hide hb1
  clear hb1
  go_wp2_with fail
  refine (HP1'.out _).mono ?_
  rintro e w' ⟨rfl,rfl⟩
  go_wp2
  go_ret
  exact⟨by rw[HK.out];rfl,HB.out⟩
 rw[decide_eq_false hl]at HP1
 rw[if_neg hl]at HPK
 have HP1':=hide HP1
 by_cases hbk:2≤r.size∧r.get! 0=47∧r.get! 1=42
 ·have HK:Hid (pk r=2):=by show _=_;rw[HPK.out,if_pos hbk]
  rw[decide_eq_true hbk]at HP2
  have HP2':=hide HP2
  clear HP1 HP2 HPK HD HR hv hc hl hb hbk
  go_enter Tryz.func76,Tryz.ntmps76
  go_wp2_with fail
  refine HDEC.out.mono ?_
  rintro e w1 ⟨rfl,hb1⟩
  have HB:=hide hb1
  clear hb1
  go_wp2_with fail
  refine (HP1'.out _).mono ?_
  rintro e w' ⟨rfl,rfl⟩
  go_wp2_with fail
  refine (HP2'.out _).mono ?_
  rintro e w' ⟨rfl,rfl⟩
  go_wp2
  go_ret
  exact⟨by rw[HK.out];rfl,HB.out⟩
 rw[decide_eq_false hbk]at HP2
 rw[if_neg hbk]at HPK
 have HP2':=hide HP2
 have HD':=hide (fun w=>HD w hmax)
 have HR':=hide (fun w=>HR w hmax)
 clear HP1 HP2 HD HR hl hbk hb hc
 cases hd:isD c with
 |true=>
  have HK:Hid (pk r=4):=by show _=_;rw[HPK.out,if_pos hd]
  rw[hd]at HD'
  clear hd hv HPK
  go_enter Tryz.func76,Tryz.ntmps76
  go_wp2_with fail
  refine HDEC.out.mono ?_
  rintro e w1 ⟨rfl,hb1⟩
  have HB:=hide hb1
  clear hb1
  go_wp2_with fail
  refine (HP1'.out _).mono ?_
  rintro e w' ⟨rfl,rfl⟩
  go_wp2_with fail
  refine (HP2'.out _).mono ?_
  rintro e w' ⟨rfl,rfl⟩
  go_wp2_with fail
  refine (HD'.out _).mono ?_
  rintro e w' ⟨rfl,rfl⟩
  go_wp2
  go_ret
  exact⟨by rw[HK.out];rfl,HB.out⟩
 |false=>
  rw[hd]at HD'
  rw[if_neg (by rw[hd];decide)]at HPK
  clear hd
  cases hr:isR c with
  |true=>
   have HK:Hid (pk r=3):=by show _=_;rw[HPK.out,if_pos hr]
   rw[hr]at HR'
   clear hr hv HPK
   go_enter Tryz.func76,Tryz.ntmps76
   go_wp2_with fail
   refine HDEC.out.mono ?_
   rintro e w1 ⟨rfl,hb1⟩
   have HB:=hide hb1
   clear hb1
   go_wp2_with fail
   refine (HP1'.out _).mono ?_
   rintro e w' ⟨rfl,rfl⟩
   go_wp2_with fail
   refine (HP2'.out _).mono ?_
   rintro e w' ⟨rfl,rfl⟩
   go_wp2_with fail
   refine (HD'.out _).mono ?_
   rintro e w' ⟨rfl,rfl⟩
   go_wp2_with fail
   refine (HR'.out _).mono ?_
   rintro e w' ⟨rfl,rfl⟩
   go_wp2
   go_ret
   exact⟨by rw[HK.out];rfl,HB.out⟩
  |false=>
   rw[hr]at HR'
   rw[if_neg (by rw[hr];decide)]at HPK
   clear hr
   by_cases h34:c=34
   ·have HK:Hid (pk r=5):=by show _=_;rw[HPK.out,if_pos h34]
    have t5:((v:Int)==34)=true:=by rw[beq_iff_eq];omega
    clear hv HPK h34
    go_enter Tryz.func76,Tryz.ntmps76
    go_wp2_with fail
    refine HDEC.out.mono ?_
    rintro e w1 ⟨rfl,hb1⟩
    have HB:=hide hb1
    clear hb1
    go_wp2_with fail
    refine (HP1'.out _).mono ?_
    rintro e w' ⟨rfl,rfl⟩
    go_wp2_with fail
    refine (HP2'.out _).mono ?_
    rintro e w' ⟨rfl,rfl⟩
    go_wp2_with fail
    refine (HD'.out _).mono ?_
    rintro e w' ⟨rfl,rfl⟩
    go_wp2_with fail
    refine (HR'.out _).mono ?_
    rintro e w' ⟨rfl,rfl⟩
    go_wp2
    go_ret
    exact⟨by rw[HK.out];rfl,HB.out⟩
   ·have HK:Hid (pk r=6):=by show _=_;rw[HPK.out,if_neg h34]
    have t5:((v:Int)==34)=false:=by rw[beq_eq_false_iff_ne];omega
    clear hv HPK h34
    go_enter Tryz.func76,Tryz.ntmps76
    go_wp2_with fail
    refine HDEC.out.mono ?_
    rintro e w1 ⟨rfl,hb1⟩
    have HB:=hide hb1
    clear hb1
    go_wp2_with fail
    refine (HP1'.out _).mono ?_
    rintro e w' ⟨rfl,rfl⟩
    go_wp2_with fail
    refine (HP2'.out _).mono ?_
    rintro e w' ⟨rfl,rfl⟩
    go_wp2_with fail
    refine (HD'.out _).mono ?_
    rintro e w' ⟨rfl,rfl⟩
    go_wp2_with fail
    refine (HR'.out _).mono ?_
    rintro e w' ⟨rfl,rfl⟩
    go_wp2
    go_ret
    exact⟨by rw[HK.out];rfl,HB.out⟩
set_option maxHeartbeats 1000000 in
set_option maxRecDepth 1000000 in
theorem signSize_one (r:ByteArray)(w:World)(h1:r.size=1):
 Calls Tryz.prog 112 #[.string r] w fun e w'=>e = .returned (.int .i64 (sg r 0))∧w'=w:=by
 have hoi:=one_index (r.get! 0)
 have hsg:sg r 0=if sl1.contains (r.get! 0)=true then 1 else 0:=by unfold sg;rw[if_neg (fun g=>by omega)]
 have HSG:=hide hsg
 have hlt:0<r.size:=by omega
 have hg0:=Utf8W.get!_of_lt r 0 hlt
 obtain⟨x,hx⟩:∃x,r[0]'hlt=x:=⟨_,rfl⟩
 rw[hx]at hg0
 rw[hg0]at hoi HSG
 have hcx:((x.toNat:Int)).toNat.toUInt8=x:=by simp
 have HIB:=fun w=>ib_is ⟨#[40,41,123,125,44,59,61,60,62,38,43,45,42,47,37,33]⟩ (x.toNat:Int) (Lib.indexByte [40,41,123,125,44,59,61,60,62,38,43,45,42,47,37,33] x) (by rw[hcx]) w
 obtain⟨i,hi⟩:∃i,Lib.indexByte [40,41,123,125,44,59,61,60,62,38,43,45,42,47,37,33] x=i:=⟨_,rfl⟩
 rw[hi]at HIB hoi
 have HIB':=hide HIB
 have HOI:=hide hoi
 have t0:decide ((2:Int)≤(r.size:Int))=false:=decide_eq_false (by omega)
 clear hoi hsg hg0 hcx HIB hi h1
 cases hone:sl1.contains x with
 |true=>
  have t1:decide (0≤i)=true:=HOI.out.trans hone
  rw[hone]at HSG
  clear hone HOI
  go_enter Tryz.func112,Tryz.ntmps112
  go_wp2_with (go_at_call 130;refine (HIB'.out _).mono ?_;rintro e w' ⟨rfl,rfl⟩)
  go_ret
  exact⟨by rw[HSG.out];rfl,rfl⟩
 |false=>
  have t1:decide (0≤i)=false:=HOI.out.trans hone
  rw[hone]at HSG
  clear hone HOI
  go_enter Tryz.func112,Tryz.ntmps112
  go_wp2_with (go_at_call 130;refine (HIB'.out _).mono ?_;rintro e w' ⟨rfl,rfl⟩)
  go_ret
  exact⟨by rw[HSG.out];rfl,rfl⟩
theorem signSize_any (r:ByteArray)(w:World)(hs:r.size≤1048576)(h1:1≤r.size):
 Calls Tryz.prog 112 #[.string r] w fun e w'=>e = .returned (.int .i64 (sg r 0))∧w'=w:=by
 by_cases h:2≤r.size
 ·exact signSize_two r w hs h
 ·exact signSize_one r w (by omega)
def tkd (k:Nat)(x:ByteArray):Nat:=if k=4 then 3 else if k=5 then 4 else if k=6 then 5 else if isW x=true then 2 else 1
set_option maxHeartbeats 1000000 in
set_option maxRecDepth 1000000 in
theorem tokenKind_any (k:Nat)(x:ByteArray)(w:World)(hk:k≤6):
 Calls Tryz.prog 78 #[.int .i64 k,.string x] w fun e w'=>e = .returned (.int .i64 (tkd k x))∧w'=w:=by
 have HW:=implWord_any x w
 by_cases h4:k=4
 ·subst h4
  go_enter Tryz.func78,Tryz.ntmps78
  go_wp2
  go_ret
  exact⟨rfl,rfl⟩
 by_cases h5:k=5
 ·subst h5
  go_enter Tryz.func78,Tryz.ntmps78
  go_wp2
  go_ret
  exact⟨rfl,rfl⟩
 by_cases h6:k=6
 ·subst h6
  go_enter Tryz.func78,Tryz.ntmps78
  go_wp2
  go_ret
  exact⟨rfl,rfl⟩
 have t4:((k:Int)==4)=false:=by rw[beq_eq_false_iff_ne];omega
 have t5:((k:Int)==5)=false:=by rw[beq_eq_false_iff_ne];omega
 have t6:((k:Int)==6)=false:=by rw[beq_eq_false_iff_ne];omega
 have HT:Hid (tkd k x=if isW x=true then 2 else 1):=by show _=_;unfold tkd;rw[if_neg h4,if_neg h5,if_neg h6]
 clear h4 h5 h6
 cases hw:isW x with
 |true=>
  rw[hw]at HW HT
  have HW':=hide HW
  clear hw HW
  go_enter Tryz.func78,Tryz.ntmps78
  go_wp2_with (go_at_call 113;refine HW'.out.mono ?_;rintro e w' ⟨rfl,rfl⟩)
  go_ret
  exact⟨by rw[HT.out];rfl,rfl⟩
 |false=>
  rw[hw]at HW HT
  have HW':=hide HW
  clear hw HW
  go_enter Tryz.func78,Tryz.ntmps78
  go_wp2_with (go_at_call 113;refine HW'.out.mono ?_;rintro e w' ⟨rfl,rfl⟩)
  go_ret
  exact⟨by rw[HT.out];rfl,rfl⟩
def psz (k:Nat)(r:ByteArray):Nat:=if k=0 then 1 else if k=1 then 2+ln r 2 else if k=2 then bsz (bc r 2 r.size) else if k=3 then run r 0 else if k=4 then nsz r else if k=5 then (litRes r 0).2 else sg r 0
set_option maxHeartbeats 1000000 in
set_option maxRecDepth 1000000 in
theorem pieceSize_any (r:ByteArray)(w:World)(m:Int)(te1 te2:TypeId)(pe1 pe2:Value)(hs:r.size≤1048576)(h1:1≤r.size)(hok:chk r=(0,0))(hT:Lib.Utf8Tabs 3 4 w)
 (hM:w.cell? ⟨5,0,none⟩=some (.int .i64 m)) (hE:w.cell? ⟨7,0,none⟩=some (.iface te1 pe1)) (hR:w.cell? ⟨8,0,none⟩=some (.iface te2 pe2)):
 Calls Tryz.prog 77 #[.int .i64 (pk r),.string r] w fun e w'=>e = .returned (.int .i64 (psz (pk r) r))∧Below w.heap.size w w':=by
 have HSIGN:=hide (signSize_any r w hs h1)
 have HLIT:=hide (rl_any r w m te1 pe1 hs hok hT hM hE)
 have HRUN:=hide (runSize_any r w hs)
 have HNUM:=hide (fun hd=>numberSize_any r w te1 te2 pe1 pe2 hs h1 hd hE hR)
 have HBLK:=hide (fun h2=>block_any r w m hs h2 hM)
 have HLINE:=hide (fun h2=>line_any r w hs h2)
 have hpk:(pk r=0)∨(pk r=1∧2≤r.size∧(r.get! 0).toNat=47∧(r.get! 1).toNat=47)∨(pk r=2∧2≤r.size)∨(pk r=4∧isD (r.get! 0).toNat=true)∨pk r=3∨pk r=5∨pk r=6:=by
  unfold pk
  split
  ·exact .inl rfl
  split
  ·rename_i h;exact .inr (.inl ⟨rfl,h.1,by rw[h.2.1];rfl,by rw[h.2.2];rfl⟩)
  split
  ·rename_i h;exact .inr (.inr (.inl ⟨rfl,h.1⟩))
  split
  ·rename_i h;exact .inr (.inr (.inr (.inl ⟨rfl,h⟩)))
  split
  ·exact .inr (.inr (.inr (.inr (.inl rfl))))
  split
  ·exact .inr (.inr (.inr (.inr (.inr (.inl rfl)))))
  ·exact .inr (.inr (.inr (.inr (.inr (.inr rfl)))))
 clear hok hT hM hE hR
 rcases hpk with e|⟨e,h2,h0,h1'⟩|⟨e,h2⟩|⟨e,hd⟩|e|e|e
 ·rw[e]
  show Calls _ _ _ _ fun e w'=>e = .returned (.int .i64 ((1:Nat):Int))∧_
  clear e
  go_enter Tryz.func77,Tryz.ntmps77
  go_wp2
  go_ret
  exact⟨rfl,Below.refl _ _⟩
 ·rw[e]
  have H:=hide (HLINE.out h2 h0 h1')
  show Calls _ _ _ _ fun e w'=>e = .returned (.int .i64 ((2+ln r 2:Nat):Int))∧_
  obtain⟨n,hn⟩:∃n:Nat,2+ln r 2=n:=⟨_,rfl⟩
  rw[hn]at H ⊢
  clear e hn
  go_enter Tryz.func77,Tryz.ntmps77
  go_wp2_with fail
  refine H.out.mono ?_
  rintro e w' ⟨rfl,rfl⟩
  go_wp2
  go_ret
  exact⟨rfl,Below.refl _ _⟩
 ·rw[e]
  have H:=hide (HBLK.out h2)
  show Calls _ _ _ _ fun e w'=>e = .returned (.int .i64 ((bsz (bc r 2 r.size):Nat):Int))∧_
  obtain⟨n,hn⟩:∃n:Nat,bsz (bc r 2 r.size)=n:=⟨_,rfl⟩
  rw[hn]at H ⊢
  clear e hn
  go_enter Tryz.func77,Tryz.ntmps77
  go_wp2_with fail
  refine H.out.mono ?_
  rintro e w' ⟨rfl,rfl⟩
  go_wp2
  go_ret
  exact⟨rfl,Below.refl _ _⟩
 ·rw[e]
  have H:=hide (HNUM.out hd)
  show Calls _ _ _ _ fun e w'=>e = .returned (.int .i64 ((nsz r:Nat):Int))∧_
  obtain⟨n,hn⟩:∃n:Nat,nsz r=n:=⟨_,rfl⟩
  rw[hn]at H ⊢
  clear e hn hd
  go_enter Tryz.func77,Tryz.ntmps77
  go_wp2_with fail
  refine H.out.mono ?_
  rintro e w1 ⟨rfl,hb⟩
  have HB:=hide hb
  clear hb
  go_wp2
  go_ret
  exact⟨rfl,HB.out⟩
 ·rw[e]
  show Calls _ _ _ _ fun e w'=>e = .returned (.int .i64 ((run r 0:Nat):Int))∧_
  obtain⟨n,hn⟩:∃n:Nat,run r 0=n:=⟨_,rfl⟩
  rw[hn]at HRUN ⊢
  clear e hn
  go_enter Tryz.func77,Tryz.ntmps77
  go_wp2_with fail
  refine HRUN.out.mono ?_
  rintro e w1 ⟨rfl,hb⟩
  have HB:=hide hb
  clear hb
  go_wp2
  go_ret
  exact⟨rfl,HB.out⟩
 ·rw[e]
  show Calls _ _ _ _ fun e w'=>e = .returned (.int .i64 (((litRes r 0).2:Nat):Int))∧_
  obtain⟨n,hn⟩:∃n:Nat,(litRes r 0).2=n:=⟨_,rfl⟩
  rw[hn]at HLIT ⊢
  clear e hn
  go_enter Tryz.func77,Tryz.ntmps77
  go_wp2_with fail
  refine HLIT.out.mono ?_
  rintro e w1 ⟨v',rfl,ho,hb⟩
  have HB:=hide hb
  clear hb ho
  go_wp2
  go_ret
  exact⟨rfl,HB.out⟩
 ·rw[e]
  show Calls _ _ _ _ fun e w'=>e = .returned (.int .i64 ((sg r 0:Nat):Int))∧_
  obtain⟨n,hn⟩:∃n:Nat,sg r 0=n:=⟨_,rfl⟩
  rw[hn]at HSIGN ⊢
  clear e hn
  go_enter Tryz.func77,Tryz.ntmps77
  go_wp2_with fail
  refine HSIGN.out.mono ?_
  rintro e w' ⟨rfl,rfl⟩
  go_wp2
  go_ret
  exact⟨rfl,Below.refl _ _⟩
theorem cw_stop (P:Nat→Bool)(s:ByteArray)(p:Nat):¬(p+cw P s p s.size<s.size∧P (s.get! (p+cw P s p s.size)).toNat=true):=by
 by_cases h:cw P s p s.size<s.size
 ·exact cw_end P s s.size p h
 ·intro g;omega
theorem cw_in (P:Nat→Bool)(s:ByteArray)(p:Nat)(hp:p≤s.size):p+cw P s p s.size≤s.size:=by
 rcases Nat.eq_zero_or_pos (cw P s p s.size) with h|h
 ·omega
 ·have:=(cw_all P s s.size p (cw P s p s.size - 1) (by omega)).1
  omega
theorem cw_ext (P:Nat→Bool)(s:ByteArray)(p q:Nat)(h:p+q≤s.size):cw P (s.extract p s.size) q (s.extract p s.size).size=cw P s (p+q) s.size:=by
 have hz:=size_ext s p (by omega)
 have hl:=cw_in P s (p+q) h
 refine cw_is (by omega) (fun j hj=>?_) ?_
 ·rw[get!_extract,← Nat.add_assoc];exact (cw_all P s s.size (p+q) j hj).2
 ·rw[get!_extract,hz,← Nat.add_assoc]
  intro g
  exact cw_stop P s (p+q) ⟨by omega,g.2⟩
theorem ln_ext (s:ByteArray)(p q:Nat)(h:p+q≤s.size):ln (s.extract p s.size) q=ln s (p+q):=cw_ext _ s p q h
theorem bc_fuel (s:ByteArray):∀f g q,s.size≤q+f→s.size≤q+g→bc s q f=bc s q g
 |0,0,_,_,_=>rfl
 |0,g+1,q,h,_=>by rw[bc,bc,if_neg (by omega)]
 |f+1,0,q,_,h=>by rw[bc,bc,if_neg (by omega)]
 |f+1,g+1,q,h,h'=>by rw[bc,bc,bc_fuel s f g (q+1) (by omega) (by omega)]
theorem bc_ext (s:ByteArray)(p:Nat)(hp:p≤s.size):∀f q,bc (s.extract p s.size) q f=(bc s (p+q) f).map (· - p)
 |0,_=>rfl
 |f+1,q=>by
  have hz:=size_ext s p hp
  have ih:=bc_ext s p hp f (q+1)
  rw[bc,bc,get!_extract,get!_extract,hz,ih,show p+(q+1)=p+q+1 by omega]
  by_cases c:p+q+1<s.size
  ·rw[if_pos c,if_pos (by omega)]
   by_cases d:(s.get! (p+q)).toNat=42∧(s.get! (p+q+1)).toNat=47
   ·rw[if_pos d,if_pos d];simp
   ·rw[if_neg d,if_neg d]
  ·rw[if_neg c,if_neg (by omega)];rfl
theorem nval_ext (s:ByteArray)(p:Nat):∀k q v,nval (s.extract p s.size) k q v=nval s k (p+q) v
 |0,_,_=>rfl
 |k+1,q,v=>by rw[nval,nval,get!_extract,nval_ext s p k (q+1),Nat.add_assoc]
theorem lit_fuel (s:ByteArray):∀f g i acc,s.size<i+f→s.size<i+g→lit s f i acc=lit s g i acc
 |0,0,_,_,_,_=>rfl
 |0,g+1,i,acc,h,_=>by rw[lit_end (by omega),lit_end (by omega)]
 |f+1,0,i,acc,_,h=>by rw[lit_end (by omega),lit_end (by omega)]
 |f+1,g+1,i,acc,h,h'=>by
  rw[lit,lit,lit_fuel s f g (i+1) _ (by omega) (by omega),lit_fuel s f g (i+1+(esc s (i+1)).2) _ (by omega) (by omega)]
theorem lit_ext (s:ByteArray)(p:Nat)(hp:p≤s.size):∀f i acc,lit (s.extract p s.size) f i acc=(lit s f (p+i) acc).map (fun x=>(x.1,x.2 - p))
 |0,_,_=>rfl
 |f+1,i,acc=>by
  have hz:=size_ext s p hp
  rw[lit,lit,get!_extract,hz,esc_ext s p (i+1) hp,lit_ext s p hp f,lit_ext s p hp f,show p+(i+1)=p+i+1 by omega]
  rw[show p+(i+1+(esc s (p+i+1)).2)=p+i+1+(esc s (p+i+1)).2 by omega]
  by_cases h1:s.size≤p+i
  ·rw[if_pos h1,if_pos (by omega)];rfl
  rw[if_neg h1,if_neg (by omega)]
  by_cases h2:(s.get! (p+i)).toNat=34
  ·rw[if_pos h2,if_pos h2]
   simp
   omega
  rw[if_neg h2,if_neg h2]
  by_cases h3:(s.get! (p+i)).toNat=10
  ·rw[if_pos h3,if_pos h3];rfl
  rw[if_neg h3,if_neg h3]
  by_cases h4:(s.get! (p+i)).toNat=92
  ·rw[if_pos h4,if_pos h4]
   by_cases h5:(esc s (p+i+1)).2=0
   ·rw[if_pos h5,if_pos h5];rfl
   ·rw[if_neg h5,if_neg h5]
  ·rw[if_neg h4,if_neg h4]
theorem litRes_ext (s:ByteArray)(p:Nat)(hp:p<s.size):(litRes (s.extract p s.size) 0).2=(litRes s p).2:=by
 have hz:=size_ext s p (by omega)
 unfold litRes litAt
 rw[get!_extract,hz,lit_ext s p (by omega),Nat.add_zero,lit_fuel s (s.size - p+1) (s.size+1) (p+(0+1)) [] (by omega) (by omega)]
 by_cases h:s.size≤p∨(s.get! p).toNat≠34
 ·rw[if_pos h,if_pos (by rcases h with h|h;exact .inl (by omega);exact .inr h)]
 ·rw[if_neg h,if_neg (by rintro (g|g);exact h (.inl (by omega));exact h (.inr g))]
  rw[show p+(0+1)=p+1 by omega]
  cases e:lit s (s.size+1) (p+1) [] with
  |none=>rfl
  |some x=>obtain⟨l,q⟩:=x;rfl
theorem sg_ext (s:ByteArray)(p:Nat)(hp:p<s.size):sg (s.extract p s.size) 0=sg s p:=by
 have hz:=size_ext s p (by omega)
 unfold sg
 rw[get!_extract,get!_extract,hz,Nat.add_zero,Nat.zero_add]
 by_cases h:p+2≤s.size∧sl2.contains [s.get! p,s.get! (p+1)]=true
 ·rw[if_pos h,if_pos ⟨by omega,h.2⟩]
 ·rw[if_neg h,if_neg (fun g=>h ⟨by omega,g.2⟩)];rfl
theorem piece_spec (s:ByteArray)(p:Nat)(hp:p<s.size)(k n:Nat)(hk:pk (s.extract p s.size)=k)(hn:psz k (s.extract p s.size)=n):
 (n=0→¬0<bl s p∧(bl s p<0∨(tok s p).2=0))∧(n≠0→k<3→bl s p=(n:Int))∧(n≠0→3≤k→bl s p=0∧tok s p=(tkd k (s.extract p (p+n)),n))∧k≤6:=by
 have hz:=size_ext s p (by omega)
 have g0:(s.extract p s.size).get! 0=s.get! p:=get!_extract s p 0
 have g1:(s.extract p s.size).get! 1=s.get! (p+1):=get!_extract s p 1
 have hrun:=run_ext s p (by omega)
 have hrl:=run_le s p (by omega)
 unfold pk at hk
 rw[g0,g1,hz]at hk
 by_cases hb:(s.get! p).toNat=32∨(s.get! p).toNat=9∨(s.get! p).toNat=13∨(s.get! p).toNat=10
 ·rw[if_pos hb]at hk
  subst hk
  have e:n=1:=hn.symm
  subst e
  have hbl:bl s p=1:=by unfold bl;rw[if_pos hb]
  exact⟨fun h=>by omega,fun _ _=>hbl,fun _ h=>by omega,by omega⟩
 rw[if_neg hb]at hk
 by_cases hl:2≤s.size - p∧s.get! p=47∧s.get! (p+1)=47
 ·rw[if_pos hl]at hk
  subst hk
  have e:2+ln s (p+2)=n:=by rw[← ln_ext s p 2 (by omega)];exact hn
  have hbl:bl s p=(n:Int):=by
   unfold bl
   rw[if_neg hb,if_neg (by rw[hl.2.1];rintro (g|g);exact g rfl;omega),if_pos (by rw[hl.2.2];rfl),e]
  exact⟨fun h=>by omega,fun _ _=>hbl,fun _ h=>by omega,by omega⟩
 rw[if_neg hl]at hk
 by_cases hbk:2≤s.size - p∧s.get! p=47∧s.get! (p+1)=42
 ·rw[if_pos hbk]at hk
  subst hk
  have hbl:bl s p=bcl p (bc s (p+2) s.size):=by
   unfold bl
   rw[if_neg hb,if_neg (by rw[hbk.2.1];rintro (g|g);exact g rfl;omega),if_neg (by rw[hbk.2.2];decide),if_neg (by rw[hbk.2.2];decide)]
  have e:bsz ((bc s (p+2) s.size).map (· - p))=n:=by
   rw[← hn,← bc_fuel s (s.extract p s.size).size s.size (p+2) (by omega) (by omega),← bc_ext s p (by omega)];rfl
  cases hx:bc s (p+2) s.size with
  |none=>
   rw[hx]at e hbl
   have e0:n=0:=e.symm
   have hb1:bl s p = -1:=hbl
   exact⟨fun _=>⟨by omega,.inl (by omega)⟩,fun h=>absurd e0 h,fun h=>absurd e0 h,by omega⟩
  |some q=>
   rw[hx]at e hbl
   have hq:=bc_le s _ _ _ hx
   have e0:q - p+2=n:=e
   have hb1:bl s p=((q - p+2:Nat):Int):=hbl
   exact⟨fun h=>by omega,fun _ _=>by rw[hb1,e0],fun _ h=>by omega,by omega⟩
 rw[if_neg hbk]at hk
 have hbl0:bl s p=0:=by
  unfold bl
  rw[if_neg hb]
  by_cases c:(s.get! p).toNat≠47∨s.size≤p+1
  ·rw[if_pos c]
  ·rw[if_neg c]
   have c47:s.get! p=47:=UInt8.toNat_inj.1 (by have:(47:UInt8).toNat=47:=rfl;omega)
   have n47:¬(s.get! (p+1)).toNat=47:=fun g=>hl ⟨by omega,c47,UInt8.toNat_inj.1 g⟩
   have n42:(s.get! (p+1)).toNat≠42:=fun g=>hbk ⟨by omega,c47,UInt8.toNat_inj.1 g⟩
   rw[if_neg n47,if_pos n42]
 by_cases hd:isD (s.get! p).toNat=true
 ·rw[if_pos hd]at hk
  subst hk
  have hnl:isL (s.get! p).toNat=false:=by
   have:=(isD_iff _).1 hd
   rw[Bool.eq_false_iff];intro g
   have:=(isL_iff _).1 g
   omega
  have hpos:0<run s p:=by
   rcases Nat.eq_zero_or_pos (run s p) with g|g
   ·have:=run_end s p
    rw[g]at this
    exact absurd ⟨by omega,(isR_iff _).2 (.inr hd)⟩ this
   ·exact g
  have e:(if nval s (run s p) p 0<0 then 0 else run s p)=n:=by
   rw[← hn]
   show _=nsz _
   unfold nsz
   rw[hrun,nval_ext,Nat.add_zero]
  have ht:tok s p=(if nval s (run s p) p 0<0 then (0,0) else (3,run s p)):=by unfold tok;rw[if_neg (by rw[hnl];decide),if_pos hpos]
  by_cases hneg:nval s (run s p) p 0<0
  ·rw[if_pos hneg]at e ht
   exact⟨fun _=>⟨by omega,.inr (by rw[ht])⟩,fun h=>absurd e.symm h,fun h=>absurd e.symm h,by omega⟩
  ·rw[if_neg hneg]at e ht
   exact⟨fun h=>by omega,fun _ h=>by omega,fun _ _=>⟨hbl0,by rw[ht,e];rfl⟩,by omega⟩
 rw[if_neg hd]at hk
 by_cases hr:isR (s.get! p).toNat=true
 ·rw[if_pos hr]at hk
  subst hk
  have hL:isL (s.get! p).toNat=true:=by
   rcases (isR_iff _).1 hr with g|g
   ·exact g
   ·exact absurd g hd
  have e:run s p=n:=by rw[← hn,← hrun];rfl
  have hpos:0<run s p:=by
   rcases Nat.eq_zero_or_pos (run s p) with g|g
   ·have:=run_end s p
    rw[g]at this
    exact absurd ⟨by omega,hr⟩ this
   ·exact g
  have ht:tok s p=(if isW (s.extract p (p+run s p))=true then 2 else 1,run s p):=by unfold tok;rw[if_pos hL]
  exact⟨fun h=>by omega,fun _ h=>by omega,fun _ _=>⟨hbl0,by rw[ht,e];rfl⟩,by omega⟩
 rw[if_neg hr]at hk
 have hnl:isL (s.get! p).toNat=false:=by rw[Bool.eq_false_iff];intro g;exact hr ((isR_iff _).2 (.inl g))
 have hr0:run s p=0:=run_is (by omega) (fun j hj=>absurd hj (Nat.not_lt_zero _)) (fun g=>hr g.2)
 by_cases h34:(s.get! p).toNat=34
 ·rw[if_pos h34]at hk
  subst hk
  have e:(litRes s p).2=n:=by rw[← litRes_ext s p hp];exact hn
  have ht:tok s p=(4,(litRes s p).2):=by unfold tok;rw[if_neg (by rw[hnl];decide),if_neg (by omega),if_pos h34]
  exact⟨fun h=>⟨by omega,.inr (by rw[ht,e];exact h)⟩,fun _ h=>by omega,fun _ _=>⟨hbl0,by rw[ht,e];rfl⟩,by omega⟩
 rw[if_neg h34]at hk
 subst hk
 have e:sg s p=n:=by rw[← sg_ext s p hp];exact hn
 have ht:tok s p=(if sg s p=0 then (0,0) else (5,sg s p)):=by unfold tok;rw[if_neg (by rw[hnl];decide),if_neg (by omega),if_neg h34]
 by_cases h0:sg s p=0
 ·rw[if_pos h0]at ht
  exact⟨fun _=>⟨by omega,.inr (by rw[ht])⟩,fun h=>by omega,fun h=>by omega,by omega⟩
 ·rw[if_neg h0]at ht
  exact⟨fun h=>by omega,fun _ h=>by omega,fun _ _=>⟨hbl0,by rw[ht,e];rfl⟩,by omega⟩
theorem chr_ext (s:ByteArray)(p q:Nat)(hp:p≤s.size):chr (s.extract p s.size) q=chr s (p+q):=by
 have hz:=size_ext s p hp
 rw[chr_pick,chr_pick]
 unfold bk
 rw[get!_extract,get!_extract,get!_extract,get!_extract,hz,← Nat.add_assoc,← Nat.add_assoc,← Nat.add_assoc,← Nat.add_assoc,show s.size - p - q=s.size - (p+q) by omega]
theorem chkAt_fuel (s:ByteArray):∀f g p,s.size<p+f→s.size<p+g→chkAt s f p=chkAt s g p
 |0,0,_,_,_=>rfl
 |0,g+1,p,h,_=>by rw[chkAt_end (by omega),chkAt_end (by omega)]
 |f+1,0,p,_,h=>by rw[chkAt_end (by omega),chkAt_end (by omega)]
 |f+1,g+1,p,h,h'=>by
  rw[chkAt,chkAt]
  by_cases c:p<s.size
  ·rw[if_pos c,if_pos c]
   by_cases d:(chr s p).1=0
   ·rw[if_pos d,if_pos d]
   ·rw[if_neg d,if_neg d];exact chkAt_fuel s f g _ (by omega) (by omega)
  ·rw[if_neg c,if_neg c]
theorem chkAt_ext (s:ByteArray)(p:Nat)(hp:p≤s.size):∀f q,chkAt s f (p+q)=(0,0)→chkAt (s.extract p s.size) f q=(0,0)
 |0,_,_=>rfl
 |f+1,q,h=>by
  have hz:=size_ext s p hp
  rw[chkAt]at h ⊢
  rw[chr_ext s p q hp,hz]
  by_cases c:p+q<s.size
  ·rw[if_pos c]at h
   rw[if_pos (by omega)]
   by_cases d:(chr s (p+q)).1=0
   ·rw[if_pos d]at h;simp at h
   ·rw[if_neg d]at h ⊢
    rw[Nat.add_assoc]at h
    exact chkAt_ext s p hp f _ h
  ·rw[if_neg (by omega)]
def bnd (s:ByteArray)(p:Nat):Prop:=∃c,s.size<p+c∧chkAt s c p=(0,0)
theorem bnd_rest {s:ByteArray}{p:Nat}(hp:p≤s.size)(h:bnd s p):chk (s.extract p s.size)=(0,0):=by
 obtain⟨c,hc,e⟩:=h
 have hz:=size_ext s p hp
 unfold chk
 refine chkAt_ext s p hp _ 0 ?_
 rw[Nat.add_zero,← e,hz]
 exact chkAt_fuel s _ _ p (by omega) hc
theorem bnd_any (s:ByteArray):∀k p q,q - p≤k→bnd s p→p≤q→q≤s.size→bnd s q∨(128≤(s.get! q).toNat∧128≤(s.get! (q - 1)).toNat∧p<q)
 |0,p,q,hk,h,hpq,_=>by
  have e:p=q:=by omega
  rw[← e];exact .inl h
 |k+1,p,q,hk,h,hpq,hq=>by
  by_cases e:p=q
  ·rw[← e];exact .inl h
  obtain⟨c,hc,he⟩:=h
  have hps:p<s.size:=by omega
  have hne:(chr s p).1≠0:=fun e0=>by rw[chkAt_bad hps hc e0]at he;cases he
  obtain⟨g,hg,hst⟩:=chkAt_good hps hc hne
  rw[he]at hst
  have hb:bnd s (p+(chr s p).1):=⟨g,by omega,hst.symm⟩
  by_cases hle:p+(chr s p).1≤q
  ·rcases bnd_any s k (p+(chr s p).1) q (by omega) hb hle hq with h|h
   ·exact .inl h
   ·exact .inr ⟨h.1,h.2.1,by omega⟩
  ·by_cases hlow:bk s p 0<128
   ·rw[chr_ascii s p hlow]at hle;simp only at hle;omega
   ·have hh:=chr_high s p hps hne (by omega)
    have h1:=hh (q - p) (by omega)
    have h2:=hh (q - 1 - p) (by omega)
    unfold bk at h1 h2
    rw[show p+(q - p)=q by omega]at h1
    rw[show p+(q - 1 - p)=q - 1 by omega]at h2
    exact .inr ⟨h1,h2,by omega⟩
theorem bnd_to {s:ByteArray}{p q:Nat}(h:bnd s p)(hpq:p≤q)(hq:q≤s.size)(hl:(s.get! q).toNat<128∨(s.get! (q - 1)).toNat<128):bnd s q:=by
 rcases bnd_any s (q - p) p q (Nat.le_refl _) h hpq hq with g|g
 ·exact g
 ·omega
theorem bc_pair (s:ByteArray):∀f q r,bc s q f=some r→(s.get! (r+1)).toNat=47
 |0,_,_,h=>by cases h
 |f+1,q,r,h=>by
  rw[bc]at h
  by_cases c:q+1<s.size
  ·rw[if_pos c]at h
   by_cases d:(s.get! q).toNat=42∧(s.get! (q+1)).toNat=47
   ·rw[if_pos d]at h
    have e:=Option.some.inj h
    rw[← e];exact d.2
   ·rw[if_neg d]at h;exact bc_pair s f (q+1) r h
  ·rw[if_neg c]at h;cases h
theorem bl_low (s:ByteArray)(p n:Nat)(_hp:p<s.size)(h:bl s p=(n:Int))(hn:0<n):(s.get! (p+n)).toNat<128∨(s.get! (p+n - 1)).toNat<128:=by
 unfold bl at h
 by_cases h1:(s.get! p).toNat=32∨(s.get! p).toNat=9∨(s.get! p).toNat=13∨(s.get! p).toNat=10
 ·rw[if_pos h1]at h
  have e:n=1:=by omega
  rw[e,Nat.add_sub_cancel];exact .inr (by omega)
 rw[if_neg h1]at h
 by_cases h2:(s.get! p).toNat≠47∨s.size≤p+1
 ·rw[if_pos h2]at h;omega
 rw[if_neg h2]at h
 by_cases h3:(s.get! (p+1)).toNat=47
 ·rw[if_pos h3]at h
  have e:n=2+ln s (p+2):=by omega
  have hs:=cw_stop (fun c=>c != 10) s (p+2)
  left
  rw[e,← Nat.add_assoc]
  by_cases c:p+2+ln s (p+2)<s.size
  ·by_cases d:(s.get! (p+2+ln s (p+2))).toNat=10
   ·omega
   ·exact absurd ⟨c,by rw[bne_iff_ne];exact d⟩ hs
  ·rw[get!_beyond s _ (by omega)];decide
 rw[if_neg h3]at h
 by_cases h4:(s.get! (p+1)).toNat≠42
 ·rw[if_pos h4]at h;omega
 rw[if_neg h4]at h
 cases e:bc s (p+2) s.size with
 |none=>rw[e]at h;simp only[bcl]at h;omega
 |some q=>
  rw[e]at h
  have hq:=bc_le s _ _ _ e
  have hp:=bc_pair s _ _ _ e
  simp only[bcl]at h
  right
  rw[show p+n - 1=q+1 by omega,hp];decide
theorem lit_last (s:ByteArray):∀f i acc l q,i≤s.size→lit s f i acc=some (l,q)→(s.get! (q - 1)).toNat=34
 |0,_,_,_,_,_,h=>by simp[lit]at h
 |f+1,i,acc,l,q,hi,h=>by
  rw[lit]at h
  by_cases h1:s.size≤i
  ·rw[if_pos h1]at h;cases h
  rw[if_neg h1]at h
  by_cases h2:(s.get! i).toNat=34
  ·rw[if_pos h2]at h
   have e:i+1=q:=by injection h with h;injection h
   rw[← e,Nat.add_sub_cancel];exact h2
  rw[if_neg h2]at h
  by_cases h3:(s.get! i).toNat=10
  ·rw[if_pos h3]at h;cases h
  rw[if_neg h3]at h
  by_cases h4:(s.get! i).toNat=92
  ·rw[if_pos h4]at h
   by_cases h5:(esc s (i+1)).2=0
   ·rw[if_pos h5]at h;cases h
   ·rw[if_neg h5]at h
    have he:=((esc_le s (i+1)).2.2 h5).1
    exact lit_last s f _ _ l q (by omega) h
  ·rw[if_neg h4]at h
   exact lit_last s f _ _ l q (by omega) h
theorem sl1_low : ∀a∈sl1,a.toNat<128:=by decide
theorem sl2_low : ∀l∈sl2,∀a∈l,a.toNat<128:=by decide
theorem tok_low (s:ByteArray)(p:Nat)(hp:p<s.size)(hn:(tok s p).2≠0):(s.get! (p+(tok s p).2 - 1)).toNat<128:=by
 have hrun:0<run s p→(s.get! (p+run s p - 1)).toNat<128:=fun h=>by
  have:=(run_all s p (run s p - 1) (by omega)).2
  rw[show p+(run s p - 1)=p+run s p - 1 by omega]at this
  exact isR_low this
 unfold tok at hn ⊢
 by_cases h1:isL (s.get! p).toNat=true
 ·rw[if_pos h1]at hn ⊢
  simp only at hn
  exact hrun (by omega)
 rw[if_neg h1]at hn ⊢
 by_cases h2:0<run s p
 ·rw[if_pos h2]at hn ⊢
  by_cases h3:nval s (run s p) p 0<0
  ·rw[if_pos h3]at hn;exact absurd rfl hn
  ·rw[if_neg h3];exact hrun h2
 rw[if_neg h2]at hn ⊢
 by_cases h3:(s.get! p).toNat=34
 ·rw[if_pos h3]at hn ⊢
  simp only at hn ⊢
  unfold litRes litAt at hn ⊢
  rw[if_neg (by rintro (g|g);omega;exact g h3)]at hn ⊢
  cases e:lit s (s.size+1) (p+1) [] with
  |none=>rw[e]at hn;exact absurd rfl hn
  |some x=>
   obtain⟨l,q⟩:=x
   have h5:=lit_in s _ _ _ l q (by omega) e
   have h6:=lit_last s _ _ _ l q (by omega) e
   show (s.get! (p+(q - p) - 1)).toNat<128
   rw[show p+(q - p) - 1=q - 1 by omega,h6];decide
 rw[if_neg h3]at hn ⊢
 by_cases h4:sg s p=0
 ·rw[if_pos h4]at hn;exact absurd rfl hn
 rw[if_neg h4]
 unfold sg at h4 ⊢
 by_cases h5:p+2≤s.size∧sl2.contains [s.get! p,s.get! (p+1)]=true
 ·rw[if_pos h5]
  have:=sl2_low _ (List.contains_iff_mem.1 h5.2) (s.get! (p+1)) (by simp)
  exact this
 ·rw[if_neg h5]at h4 ⊢
  by_cases h6:sl1.contains (s.get! p)=true
  ·rw[if_pos h6]
   exact sl1_low _ (List.contains_iff_mem.1 h6)
  ·rw[if_neg h6]at h4;exact absurd rfl h4
end Go.Proofs.YtbiakdjpeblclaaGreatDoor
namespace Go.Proofs.YtbiakdjpeblclaaGreatDoor
open Go.RowKit Go.Shelf
def KpB (n₀ Bn:Nat)(W W':World):Prop:=Below n₀ W W'∧W'.cell? ⟨Bn,0,none⟩=W.cell? ⟨Bn,0,none⟩
theorem below_grown {w w':World}(hb:Below w.heap.size w w'):w.grownBy w' none:=⟨hb.os,hb.tape,hb.output,hb.size,fun k hk _=>hb.block k hk⟩
theorem kpB_t {n₀ Bn:Nat}{A B C:World}(h:KpB n₀ Bn A B)(k:KpB n₀ Bn B C):KpB n₀ Bn A C:=⟨h.1.trans k.1,k.2.trans h.2⟩
theorem kpB_b {n₀ Bn:Nat}{w:World}(hn:n₀≤w.heap.size)(hB:Bn<w.heap.size)(W:World)(l:Nat)(o o':Obj)(hl:w.heap.size≤l)(h:W.heap[l]?=some o)(h1:o.isCells=false)(h2:o.isWalk=false):KpB n₀ Bn W (W.putObj l o'):=
 ⟨belowK_b hn W l o o' hl h h1 h2,(belowK_b (n₀:=Bn+1) (w:=w) hB W l o o' hl h h1 h2).cell (p:=⟨Bn,0,none⟩) (Nat.lt_succ_self _)⟩
theorem box_kept {W W':World}{row:Option Nat}{B:Nat}{t:TypeId}{v:Value}(h:Boxed W B t v)(hg:W.grownBy W' row)(hr:∀r,row=some r→∃o:Obj,W.heap[r]?=some o∧o.isCells=false):Boxed W' B t v:=
 h.kept hg (fun e'=>by obtain⟨o,ho,hc⟩:=hr B e'.symm;rw[show W.heap[B]?=_ from h]at ho;cases ho;cases hc)
end Go.Proofs.YtbiakdjpeblclaaGreatDoor

/-
  The walk of impl.Lex.
-/
import Derived.Test.YtbiakdjpeblclaaGreatDoorJPaQAS
import Derived.Test.YtbiakdjpeblclaaGreatDoorJPaLX
import Derived.Test.YtbiakdjpeblclaaGreatDoorJPaT
import Derived.Test.YtbiakdjpeblclaaGreatDoorJPaQ
import Derived.Test.YtbiakdjpeblclaaGreatDoorJPaMK
import Derived.Laws.BytesString
import Derived.Test.YtbiakdjpeblclaaGreatDoorJPaIK
import Derived.Test.YtbiakdjpeblclaaGreatDoorJPaRL
import Derived.Laws.MakeOwn
import Derived.BigQuiet
import Derived.Deep.QuietTactic
import Derived.Deep.RegionWith
namespace Go.Proofs.YtbiakdjpeblclaaGreatDoor
open Go.RowKit Go.Shelf
attribute [local go_sem] Oper.semAt_some
set_option maxRecDepth 1000000 in
set_option maxHeartbeats 2000000 in
theorem implLex_big (b off cap:Nat)(s:ByteArray)(w:World)(h:5000<s.size):
 Calls Tryz.prog 22 #[.slice (some ⟨b,off,none⟩) s.size cap] w fun e w'=>LexGives w w' e (lexed s):=by
 have HR:Hid (lexed s=([],4,5000)):=by show _=_;unfold lexed;rw[if_pos h]
 have t0:decide ((5000:Int)<(s.size:Int))=true:=decide_eq_true (by omega)
 have hmx:Tryz.prog.follows .mixedOrders=true:=by kernel_rfl
 clear h
 refine (callsIn_wide (n:=3)).1 ?_
 refine callsIn_of_wp_marks Tryz.func22 rfl trivial ?_ rfl
 simp only[Tryz.ntmps22,List.size_toArray,List.length_cons,List.length_nil,Nat.reduceAdd,Nat.reduceSub,Array.replicate_succ,Array.replicate_zero,List.push_toArray,List.append_toArray,List.nil_append,List.cons_append]
 gi_wp2
 have y0:Boxed (((w.alloc (.cells #[.slice none 0 0] 35)).alloc (.cells #[.int .i64 4] 3)).alloc (.cells #[.int .i64 5000] 3)) w.heap.size 35 (.slice none 0 0):=((Boxed.new w _ _).alloc _).alloc _
 have y1:Boxed (((w.alloc (.cells #[.slice none 0 0] 35)).alloc (.cells #[.int .i64 4] 3)).alloc (.cells #[.int .i64 5000] 3)) (w.heap.size+1) 3 (.int .i64 4):=by
  have:=(Boxed.new (w.alloc (.cells #[.slice none 0 0] 35)) 3 (.int .i64 4)).alloc (.cells #[.int .i64 5000] 3)
  rwa [World.size_alloc]at this
 have y2:Boxed (((w.alloc (.cells #[.slice none 0 0] 35)).alloc (.cells #[.int .i64 4] 3)).alloc (.cells #[.int .i64 5000] 3)) (w.heap.size+1+1) 3 (.int .i64 5000):=by
  have:=Boxed.new ((w.alloc (.cells #[.slice none 0 0] 35)).alloc (.cells #[.int .i64 4] 3)) 3 (.int .i64 5000)
  rwa [World.size_alloc,World.size_alloc]at this
 have hB0:Below w.heap.size w (((w.alloc (.cells #[.slice none 0 0] 35)).alloc (.cells #[.int .i64 4] 3)).alloc (.cells #[.int .i64 5000] 3)):=(((Below.refl _ w).alloc (Nat.le_refl _) _).alloc (by simp) _).alloc (by simp;omega) _
 have z0:=y0.cell
 have z1:=y1.cell
 have z2:=y2.cell
 generalize ((w.alloc (.cells #[.slice none 0 0] 35)).alloc (.cells #[.int .i64 4] 3)).alloc (.cells #[.int .i64 5000] 3)=X at *
 refine⟨.tuple #[.slice none 0 0,.int .i64 4,.int .i64 5000],?_,?_⟩
 ·simp[results,Tryz.f22,go_sem,z0,z1,z2]
 ·exact lexGives_nil HR.out hB0
set_option maxRecDepth 1000000 in
set_option maxHeartbeats 2000000 in
theorem implLex_bad (b off cap:Nat)(s:ByteArray)(w:World)(m:Int)(te1 te2:TypeId)(pe1 pe2:Value)(hs:s.size≤5000)(hlib:LibOk w m te1 te2 pe1 pe2)(hc:∀j,j<s.size→w.cell? ⟨b,off+j,none⟩=some (bts s j))(hg:(chk s).1≠0):
 Calls Tryz.prog 22 #[.slice (some ⟨b,off,none⟩) s.size cap] w fun e w'=>LexGives w w' e (lexed s):=by
 have H:=fun w1 (hb:Below w.heap.size w w1)=>implCheck_any b off cap s w1 (by omega) (Utf8Tabs_below hlib.tabs hb) (fun j hj=>by rw[hb.cell (p:=⟨b,off+j,none⟩) (World.block_lt_of_cell? _ _ (hc j hj))];exact hc j hj)
 obtain⟨A,D,hAD⟩:∃A D,chk s=(A,D):=⟨_,_,rfl⟩
 rw[pairVal_of hAD]at H
 have H':=hide H
 have HR:Hid (lexed s=([],A,D)):=by show _=_;unfold lexed;rw[if_neg (by omega),if_neg hg,hAD]
 rw[hAD]at hg
 have t1:((A:Int) != 0)=true:=by rw[bne_iff_ne];simp only at hg;omega
 have t0:decide ((5000:Int)<(s.size:Int))=false:=decide_eq_false (by omega)
 have hmx:Tryz.prog.follows .mixedOrders=true:=by kernel_rfl
 have hB0:Below w.heap.size w (((w.alloc (.cells #[.slice none 0 0] 35)).alloc (.cells #[.int .i64 0] 3)).alloc (.cells #[.int .i64 0] 3)):=(((Below.refl _ w).alloc (Nat.le_refl _) _).alloc (by simp) _).alloc (by simp;omega) _
 have b0:Boxed (((w.alloc (.cells #[.slice none 0 0] 35)).alloc (.cells #[.int .i64 0] 3)).alloc (.cells #[.int .i64 0] 3)) w.heap.size 35 (.slice none 0 0):=((Boxed.new w _ _).alloc _).alloc _
 have b1:Boxed (((w.alloc (.cells #[.slice none 0 0] 35)).alloc (.cells #[.int .i64 0] 3)).alloc (.cells #[.int .i64 0] 3)) (w.heap.size+1) 3 (.int .i64 0):=by
  have:=(Boxed.new (w.alloc (.cells #[.slice none 0 0] 35)) 3 (.int .i64 0)).alloc (.cells #[.int .i64 0] 3)
  rwa [World.size_alloc]at this
 have b2:Boxed (((w.alloc (.cells #[.slice none 0 0] 35)).alloc (.cells #[.int .i64 0] 3)).alloc (.cells #[.int .i64 0] 3)) (w.heap.size+1+1) 3 (.int .i64 0):=by
  have:=Boxed.new ((w.alloc (.cells #[.slice none 0 0] 35)).alloc (.cells #[.int .i64 0] 3)) 3 (.int .i64 0)
  rwa [World.size_alloc,World.size_alloc]at this
 have HB0:=hide hB0
 have Hb0:=hide b0
 have Hb1:=hide b1
 have Hb2:=hide b2
 clear H hAD hg hc hlib hB0 b0 b1 b2
 refine (callsIn_wide (n:=3)).1 ?_
 refine callsIn_of_wp_marks Tryz.func22 rfl trivial ?_ rfl
 simp only[Tryz.ntmps22,List.size_toArray,List.length_cons,List.length_nil,Nat.reduceAdd,Nat.reduceSub,Array.replicate_succ,Array.replicate_zero,List.push_toArray,List.append_toArray,List.nil_append,List.cons_append]
 gi_wp2_with fail
 refine⟨trivial,?_⟩
 refine (callsIn_wide.2 (H'.out _ HB0.out)).mono ?_
 rintro e w1 ⟨rfl,hb1⟩
 have hB1:=HB0.out.trans (hb1.mono HB0.out.size)
 have c0:=Hb0.out.kept (below_grown hb1) (by simp)
 have c1:=Hb1.out.kept (below_grown hb1) (by simp)
 have c2:=Hb2.out.kept (below_grown hb1) (by simp)
 clear hb1 HB0 Hb0 Hb1 Hb2 H'
 have HB1:=hide hB1
 have HC0:=hide c0
 have HC1:=hide c1
 have HC2:=hide c2
 have r0c:=c0.cell
 have r0f:=c0.frozen
 have r1c:=c1.cell
 have r1f:=c1.frozen
 have r2c:=c2.cell
 have r2f:=c2.frozen
 clear hB1 c0 c1 c2
 gi_wp2
 have i0:=((HC0.out.set (.slice none 0 0)).other (B':=w.heap.size+1) (by omega) (.int .i64 A)).other (B':=w.heap.size+1+1) (by omega) (.int .i64 D)
 have i1:=((HC1.out.other (B':=w.heap.size) (by omega) (.slice none 0 0)).set (.int .i64 A)).other (B':=w.heap.size+1+1) (by omega) (.int .i64 D)
 have i2:=((HC2.out.other (B':=w.heap.size) (by omega) (.slice none 0 0)).other (B':=w.heap.size+1) (by omega) (.int .i64 A)).set (.int .i64 D)
 have hBX:=((HB1.out.setCell (p:=⟨w.heap.size,0,none⟩) (Nat.le_refl _) (.slice none 0 0)).setCell (p:=⟨w.heap.size+1,0,none⟩) (by simp) (.int .i64 A)).setCell (p:=⟨w.heap.size+1+1,0,none⟩) (by simp;omega) (.int .i64 D)
 have z0:=i0.cell
 have z1:=i1.cell
 have z2:=i2.cell
 generalize ((w1.setCell ⟨w.heap.size,0,none⟩ (.slice none 0 0)).setCell ⟨w.heap.size+1,0,none⟩ (.int .i64 A)).setCell ⟨w.heap.size+1+1,0,none⟩ (.int .i64 D)=X at *
 refine⟨.tuple #[.slice none 0 0,.int .i64 A,.int .i64 D],?_,?_⟩
 ·simp[results,Tryz.f22,go_sem,z0,z1,z2]
 ·exact lexGives_nil HR.out hBX
theorem implLex_any (b off cap:Nat)(s:ByteArray)(w:World)(m:Int)(te1 te2:TypeId)(pe1 pe2:Value)(hlib:LibOk w m te1 te2 pe1 pe2)(hc:∀j,j<s.size→w.cell? ⟨b,off+j,none⟩=some (bts s j)):
 Calls Tryz.prog 22 #[.slice (some ⟨b,off,none⟩) s.size cap] w fun e w'=>LexGives w w' e (lexed s):=by
 by_cases h:5000<s.size
 ·exact implLex_big b off cap s w h
 ·by_cases hg:(chk s).1=0
  ·exact implLex_good b off cap s w m te1 te2 pe1 pe2 (by omega) hlib hc hg
  ·exact implLex_bad b off cap s w m te1 te2 pe1 pe2 (by omega) hlib hc hg
end Go.Proofs.YtbiakdjpeblclaaGreatDoor
namespace Go.Proofs.YtbiakdjpeblclaaGreatDoor
open Go.RowKit
def nOf (d:Nd):Int:=if d.kind=1 then 1+d.types.length else if d.kind=3∨d.kind=4∨d.kind=5∨d.kind=19 then 1 else 0
set_option maxHeartbeats 2000000 in
set_option maxRecDepth 1000000 in
theorem namesOf_any (d:Nd)(vt vn vy:Value)(w:World)(hy:IS w vy d.types)(hl:d.types.length≤1048576):
 Calls Tryz.prog 142 #[nagg d vt vn vy] w fun e w'=>e = .returned (.int .i64 (nOf d))∧Below w.heap.size w w':=by
 obtain⟨K,N,T,M,Y,C⟩:=d
 simp only at hy hl
 obtain⟨ay,_,_,cy,rfl,_,_⟩:=hy
 have HN:Hid (nOf ⟨K,N,T,M,Y,C⟩=if K=1 then 1+(Y.length:Int) else if K=3∨K=4∨K=5∨K=19 then 1 else 0):=rfl
 unfold nagg
 simp only
 by_cases h1:K=1
 ·subst h1
  rw[if_pos rfl]at HN
  go_enter Tryz.func142,Tryz.ntmps142
  go_wp2
  go_ret
  exact⟨by rw[HN.out];first|rfl|exact ret_int (by omega),(Below.refl _ _).alloc (Nat.le_refl _) _⟩
 rw[if_neg h1]at HN
 have n1:(K==1)=false:=by rw[beq_eq_false_iff_ne];exact h1
 by_cases h2:K=3∨K=4∨K=5∨K=19
 ·rw[if_pos h2]at HN
  clear h1
  rcases h2 with rfl|rfl|rfl|rfl
  all_goals
   clear n1
   go_enter Tryz.func142,Tryz.ntmps142
   go_wp2
   go_ret
   exact⟨by rw[HN.out];rfl,(Below.refl _ _).alloc (Nat.le_refl _) _⟩
 ·rw[if_neg h2]at HN
  have n3:(K==3)=false:=by rw[beq_eq_false_iff_ne];omega
  have n4:(K==4)=false:=by rw[beq_eq_false_iff_ne];omega
  have n5:(K==5)=false:=by rw[beq_eq_false_iff_ne];omega
  have n6:(K==19)=false:=by rw[beq_eq_false_iff_ne];omega
  clear h1 h2
  go_enter Tryz.func142,Tryz.ntmps142
  go_wp2
  go_ret
  exact⟨by rw[HN.out];rfl,(Below.refl _ _).alloc (Nat.le_refl _) _⟩
def tOk (l:List Int):Bool:=l.all fun t=>t==0||t==1
def vTy (d:Nd):Bool:=if d.kind=1 then decide (d.types.length≤10)&&tOk d.types else d.types.length==0
set_option maxHeartbeats 2000000 in
set_option maxRecDepth 1000000 in
theorem validTypes_any (d:Nd)(vt vn vy:Value)(w:World)(hy:IS w vy d.types)(hl:d.types.length≤1048576):
 Calls Tryz.prog 123 #[nagg d vt vn vy] w fun e w'=>e = .returned (.bool (vTy d))∧Below w.heap.size w w':=by
 obtain⟨K,N,T,M,Y,C⟩:=d
 simp only at hy hl
 have HY:=hide hy
 obtain⟨ay,by_,oy,cy,rfl,hay,hcy⟩:=hy
 have HN:Hid (vTy ⟨K,N,T,M,Y,C⟩=if K=1 then decide (Y.length≤10)&&tOk Y else Y.length==0):=rfl
 unfold nagg
 simp only
 by_cases h1:K=1
 ·subst h1
  rw[if_pos rfl]at HN
  by_cases h10:Y.length≤10
  ·have d1:decide ((10:Int)<(Y.length:Int))=false:=decide_eq_false (by omega)
   rw[decide_eq_true h10,Bool.true_and]at HN
   have HC:=hide hcy
   clear hcy
   go_enter Tryz.func123,Tryz.ntmps123
   go_wp2
   go_loopw [19] (fun ix wr=>∃k:Nat,k≤Y.length∧ix = .int .i64 k∧tOk (Y.drop k)=tOk Y∧Below w.heap.size w wr) (fun ix _=>Y.length - (intOf ix).toNat)
   case atStart=>exact⟨0,Nat.zero_le _,rfl,rfl,(Below.refl _ _).alloc (Nat.le_refl _) _⟩
   case round=>
    obtain⟨k,hk,rfl,hok,hb⟩:=hrel
    have HB:=hide hb
    by_cases hlt:k<Y.length
    ·obtain rfl:=hay (by omega)
     have g:=cell_kept (HC.out k hlt) hb
     have hd:Y.drop k=Y.getD k 0::Y.drop (k+1):=by
      rw[List.drop_eq_getElem_cons hlt,List.getD_eq_getElem?_getD,List.getElem?_eq_getElem hlt];rfl
     have ht:tOk (Y.getD k 0::Y.drop (k+1))=((Y.getD k 0==0||Y.getD k 0==1)&&tOk (Y.drop (k+1))):=rfl
     rw[hd,ht]at hok
     obtain⟨y,hy⟩:∃y,Y.getD k 0=y:=⟨_,rfl⟩
     rw[hy]at g hok
     have hlti:(k:Int)<(Y.length:Int):=by omega
     have HOK:=hide hok
     clear hb hd ht hy hok
     have hyc:y=0∨y=1∨(y≠0∧y≠1):=by omega
     rcases hyc with rfl|rfl|⟨y0,y1⟩
     ·have HR:Hid (tOk (Y.drop (k+1))=tOk Y):=HOK.out
      go_wp2
      go_roundw
      case rel=>exact⟨k+1,by omega,by go_num,HR.out,HB.out⟩
      case measure=>simp[intOf];omega
     ·have HR:Hid (tOk (Y.drop (k+1))=tOk Y):=HOK.out
      go_wp2
      go_roundw
      case rel=>exact⟨k+1,by omega,by go_num,HR.out,HB.out⟩
      case measure=>simp[intOf];omega
     ·have e0:(y != 0)=true:=by rw[bne_iff_ne];exact y0
      have e1:(y != 1)=true:=by rw[bne_iff_ne];exact y1
      have HR:Hid (tOk Y=false):=by
       show _=_
       rw[← HOK.out,beq_eq_false_iff_ne.2 y0,beq_eq_false_iff_ne.2 y1];rfl
      clear y0 y1
      go_wp2
      go_ret
      exact⟨by rw[HN.out,HR.out];rfl,HB.out⟩
    ·have e:k=Y.length:=by omega
     have hge:¬(k:Int)<(Y.length:Int):=by omega
     have HR:Hid (tOk Y=true):=by show _=_;rw[← hok,e,List.drop_length];rfl
     clear hok hb
     go_wp2
     go_ret
     exact⟨by rw[HN.out,HR.out];rfl,HB.out⟩
  ·have d1:decide ((10:Int)<(Y.length:Int))=true:=decide_eq_true (by omega)
   rw[decide_eq_false h10,Bool.false_and]at HN
   clear hcy
   go_enter Tryz.func123,Tryz.ntmps123
   go_wp2
   go_ret
   exact⟨by rw[HN.out];rfl,(Below.refl _ _).alloc (Nat.le_refl _) _⟩
 ·rw[if_neg h1]at HN
  have n1:(K != 1)=true:=by rw[bne_iff_ne];exact h1
  have e0:((Y.length:Int)==0)=(Y.length==0):=by
   by_cases h:Y.length=0
   ·rw[h];rfl
   ·rw[beq_eq_false_iff_ne.2 h,beq_eq_false_iff_ne];omega
  rw[← e0]at HN
  clear h1 hcy e0
  go_enter Tryz.func123,Tryz.ntmps123
  go_wp2
  go_ret
  exact⟨by rw[HN.out];rfl,(Below.refl _ _).alloc (Nat.le_refl _) _⟩
theorem implCheck_bs {w:World}{v:Value}{s:ByteArray}(hs:s.size≤1048576)(hT:Lib.Utf8Tabs 3 4 w)(h:BS w v s):
 Calls Tryz.prog 47 #[v] w fun e w'=>e = .returned (pairVal (chk s))∧Below w.heap.size w w':=implCheck_val v s w hs hT (toStr_bs h)
def shortT (s:ByteArray):Bool:=decide (s.size≤60)&&decide ((chk s).1=0)
set_option maxHeartbeats 1000000 in
set_option maxRecDepth 1000000 in
theorem isShort_any (v:Value)(s:ByteArray)(w:World)(hl:s.size≤1048576)(hT:Lib.Utf8Tabs 3 4 w)(h:BS w v s):
 Calls Tryz.prog 141 #[v] w fun e w'=>e = .returned (.bool (shortT s))∧Below w.heap.size w w':=by
 have HB:=hide h
 have HT:=hide hT
 obtain⟨a,b,o,c,rfl,_,_⟩:=h
 clear hT
 by_cases h60:s.size≤60
 ·have d1:decide ((60:Int)<(s.size:Int))=false:=decide_eq_false (by omega)
  obtain⟨A,D,hAD⟩:∃A D,chk s=(A,D):=⟨_,_,rfl⟩
  have HN:Hid (shortT s=((A:Int)==0)):=by
   show _=_
   unfold shortT
   rw[decide_eq_true h60,Bool.true_and,hAD]
   show decide (A=0)=_
   by_cases h:A=0
   ·subst h;rfl
   ·rw[decide_eq_false h];symm;rw[beq_eq_false_iff_ne];omega
  have HAD:=hide hAD
  clear hAD h60
  go_enter Tryz.func141,Tryz.ntmps141
  go_wp2_with fail
  refine (implCheck_bs hl HT.out HB.out).mono ?_
  rintro e w2 ⟨rfl,hb2⟩
  rw[pairVal_of HAD.out]
  have HB2:=hide hb2
  clear hb2
  go_wp2
  go_ret
  exact⟨by rw[HN.out];rfl,HB2.out⟩
 ·have d1:decide ((60:Int)<(s.size:Int))=true:=decide_eq_true (by omega)
  have HN:Hid (shortT s=false):=by show _=_;unfold shortT;rw[decide_eq_false h60,Bool.false_and]
  clear h60
  go_enter Tryz.func141,Tryz.ntmps141
  go_wp2
  go_ret
  exact⟨by rw[HN.out];rfl,Below.refl _ _⟩
def vTx (d:Nd):Bool:=if d.kind=17 then decide (d.text.size≤60)&&decide ((chk d.text).1=0) else d.text.size==0
set_option maxHeartbeats 2000000 in
set_option maxRecDepth 1000000 in
theorem validText_any (d:Nd)(vt vn vy:Value)(w:World)(ht:BS w vt d.text)(hl:d.text.size≤1048576)(hT:Lib.Utf8Tabs 3 4 w):
 Calls Tryz.prog 122 #[nagg d vt vn vy] w fun e w'=>e = .returned (.bool (vTx d))∧Below w.heap.size w w':=by
 obtain⟨K,N,T,M,Y,C⟩:=d
 simp only at ht hl
 have HN:Hid (vTx ⟨K,N,T,M,Y,C⟩=if K=17 then decide (T.size≤60)&&decide ((chk T).1=0) else T.size==0):=rfl
 have HT:=hide hT
 have HBT:=hide ht
 obtain⟨at_,bt,ot,ct,rfl,_,_⟩:=ht
 clear hT
 unfold nagg
 simp only
 by_cases h1:K=17
 ·subst h1
  rw[if_pos rfl]at HN
  have HB1:∀o,Below w.heap.size w (w.alloc o):=fun o=>(Below.refl _ _).alloc (Nat.le_refl _) _
  have HBH:=hide HB1
  have HN2:Hid (vTx ⟨17,N,T,M,Y,C⟩=shortT T):=HN.out
  obtain⟨sb,hsb⟩:∃b,shortT T=b:=⟨_,rfl⟩
  rw[hsb]at HN2
  have HSB:=hide hsb
  clear HB1 HN hsb
  go_enter Tryz.func122,Tryz.ntmps122
  go_wp2_with fail
  refine (isShort_any _ T _ hl (Utf8Tabs_below HT.out (HBH.out _)) (HBT.out.below (HBH.out _))).mono ?_
  rintro e w2 ⟨rfl,hb2⟩
  rw[HSB.out]
  have HB2:Hid (Below w.heap.size w w2):=(HBH.out _).trans (hb2.mono (HBH.out _).size)
  clear hb2
  go_wp2
  go_ret
  exact⟨by rw[HN2.out];rfl,HB2.out⟩
 ·rw[if_neg h1]at HN
  have n1:(K != 17)=true:=by rw[bne_iff_ne];exact h1
  have e0:((T.size:Int)==0)=(T.size==0):=by
   by_cases h:T.size=0
   ·rw[h];rfl
   ·rw[beq_eq_false_iff_ne.2 h,beq_eq_false_iff_ne];omega
  rw[← e0]at HN
  clear h1 e0
  go_enter Tryz.func122,Tryz.ntmps122
  go_wp2
  go_ret
  exact⟨by rw[HN.out];rfl,(Below.refl _ _).alloc (Nat.le_refl _) _⟩
set_option maxHeartbeats 1000000 in
set_option maxRecDepth 1000000 in
theorem pieceKind_nil (w:World)(hT:Lib.Utf8Tabs 3 4 w):
 Calls Tryz.prog 76 #[.string ByteArray.empty] w fun e w'=>e = .returned (.int .i64 6)∧Below w.heap.size w w':=by
 have hd:Lib.decodeGo ByteArray.empty=(65533,0):=rfl
 have hdec:=Tryz.utf8_DecodeRuneInString ByteArray.empty w hT
 rw[hd]at hdec
 have HD:=hide hdec
 have H1:=hide (fun w=>hp_at ByteArray.empty ⟨#[47,47]⟩ false rfl w)
 have H2:=hide (fun w=>hp_at ByteArray.empty ⟨#[47,42]⟩ false rfl w)
 have hD:isD 65533=false:=rfl
 have hR:isR 65533=false:=rfl
 have h3:=fun w=>isDigit_any 65533 w (by omega)
 have h4:=fun w=>isRunRune_any 65533 w (by omega)
 simp only[hD]at h3
 simp only[hR]at h4
 have H3:=hide h3
 have H4:=hide h4
 clear h3 h4 hD hR
 clear hdec hd hT
 go_enter Tryz.func76,Tryz.ntmps76
 go_wp2_with fail
 refine HD.out.mono ?_
 rintro e w1 ⟨rfl,hb1⟩
 have HB:=hide hb1
 clear hb1
 go_wp2_with fail
 refine (H1.out _).mono ?_
 rintro e w2 ⟨rfl,rfl⟩
 go_wp2_with fail
 refine (H2.out _).mono ?_
 rintro e w3 ⟨rfl,rfl⟩
 go_wp2_with fail
 refine (H3.out _).mono ?_
 rintro e w4 ⟨rfl,rfl⟩
 go_wp2_with fail
 refine (H4.out _).mono ?_
 rintro e w5 ⟨rfl,rfl⟩
 go_wp2
 go_ret
 exact⟨rfl,HB.out⟩
def vNm (s:ByteArray):Bool:=decide (s.size≤30)&&(decide (0<s.size)&&(pk s==3&&(run s 0==s.size&& !isW s)))
theorem nat_beq (a b:Nat):(((a:Nat):Int)==((b:Nat):Int))=(a==b):=by
 by_cases h:a=b
 ·subst h;simp
 ·rw[beq_eq_false_iff_ne.2 h,beq_eq_false_iff_ne];omega
set_option maxHeartbeats 1000000 in
set_option maxRecDepth 1000000 in
theorem validName_any (v:Value)(s:ByteArray)(w:World)(hv:BS w v s)(hl:s.size≤1048576)(hT:Lib.Utf8Tabs 3 4 w):
 Calls Tryz.prog 143 #[v] w fun e w'=>e = .returned (.bool (vNm s))∧Below w.heap.size w w':=by
 have hcv:=toStr_bs hv
 have HT:=hide hT
 obtain⟨a,_,_,c,rfl,_,_⟩:=hv
 clear hT
 by_cases h30:s.size≤30
 ·have d1:decide ((30:Int)<(s.size:Int))=false:=decide_eq_false (by omega)
  by_cases h0:s.size=0
  ·have e:s=ByteArray.empty:=ext_bytes h0 (fun j hj=>by omega)
   have HN:Hid (vNm s=false):=by show _=_;unfold vNm;rw[decide_eq_false (show ¬0<s.size by omega),Bool.false_and,Bool.and_false]
   have HP:=hide (pieceKind_nil w HT.out)
   rw[← e]at HP
   clear e h0
   go_enter Tryz.func143,Tryz.ntmps143
   go_wp2_with fail
   refine HP.out.mono ?_
   rintro e w1 ⟨rfl,hb1⟩
   have HB:=hide hb1
   clear hb1 hcv
   go_wp2
   go_ret
   exact⟨by rw[HN.out];rfl,HB.out⟩
  ·have HN:Hid (vNm s=(pk s==3&&(run s 0==s.size&& !isW s))):=by show _=_;unfold vNm;rw[decide_eq_true h30,decide_eq_true (show 0<s.size by omega),Bool.true_and,Bool.true_and]
   have HP:=hide (pieceKind_any s w (by omega) HT.out)
   obtain⟨P,hP⟩:∃P,pk s=P:=⟨_,rfl⟩
   rw[hP]at HN HP
   by_cases c1:P=3
   ·subst c1
    have HR:=hide (fun w=>runSize_any s w hl)
    obtain⟨R,hR⟩:∃R,run s 0=R:=⟨_,rfl⟩
    simp only[hR]at HN HR
    by_cases c2:R=s.size
    ·have e2:((R:Int)==(s.size:Int))=true:=by rw[nat_beq,beq_iff_eq];exact c2
     have HN2:Hid (vNm s = !isW s):=by show _=_;rw[HN.out,beq_iff_eq.2 c2];rfl
     have HW:=hide (fun w=>implWord_any s w)
     obtain⟨B,hB⟩:∃B,isW s=B:=⟨_,rfl⟩
     simp only[hB]at HN2 HW
     clear h0 c2 HN hP hR hB
     go_enter Tryz.func143,Tryz.ntmps143
     go_wp2_with fail
     refine HP.out.mono ?_
     rintro e w1 ⟨rfl,hb1⟩
     have HB1:=hide hb1
     clear hb1 hcv
     go_wp2_with fail
     refine (HR.out _).mono ?_
     rintro e w2 ⟨rfl,hb2⟩
     have HB2:Hid (Below w.heap.size w w2):=HB1.out.trans (hb2.mono HB1.out.size)
     clear hb2
     go_wp2_with fail
     refine (HW.out _).mono ?_
     rintro e w3 ⟨rfl,rfl⟩
     go_wp2
     go_ret
     exact⟨by rw[HN2.out];rfl,HB2.out⟩
    ·have e2:((R:Int)==(s.size:Int))=false:=by rw[nat_beq,beq_eq_false_iff_ne];exact c2
     have HN2:Hid (vNm s=false):=by show _=_;rw[HN.out,beq_eq_false_iff_ne.2 c2];rfl
     clear h0 c2 HN hP hR
     go_enter Tryz.func143,Tryz.ntmps143
     go_wp2_with fail
     refine HP.out.mono ?_
     rintro e w1 ⟨rfl,hb1⟩
     have HB1:=hide hb1
     clear hb1 hcv
     go_wp2_with fail
     refine (HR.out _).mono ?_
     rintro e w2 ⟨rfl,hb2⟩
     have HB2:Hid (Below w.heap.size w w2):=HB1.out.trans (hb2.mono HB1.out.size)
     clear hb2
     go_wp2
     go_ret
     exact⟨by rw[HN2.out];rfl,HB2.out⟩
   ·have e1:((P:Int)==3)=false:=by rw[beq_eq_false_iff_ne];omega
    have HN2:Hid (vNm s=false):=by show _=_;rw[HN.out,beq_eq_false_iff_ne.2 c1];rfl
    clear h0 c1 HN hP
    go_enter Tryz.func143,Tryz.ntmps143
    go_wp2_with fail
    refine HP.out.mono ?_
    rintro e w1 ⟨rfl,hb1⟩
    have HB1:=hide hb1
    clear hb1 hcv
    go_wp2
    go_ret
    exact⟨by rw[HN2.out];rfl,HB1.out⟩
 ·have d1:decide ((30:Int)<(s.size:Int))=true:=decide_eq_true (by omega)
  have HN:Hid (vNm s=false):=by show _=_;unfold vNm;rw[decide_eq_false h30];rfl
  go_enter Tryz.func143,Tryz.ntmps143
  go_wp2
  go_ret
  exact⟨by rw[HN.out];rfl,Below.refl _ _⟩
structure NB (d:Nd):Prop where
 text:d.text.size≤1048576
 names:d.names.length≤1048576
 each:∀j,j<d.names.length→(d.names.getD j .empty).size≤1048576
 types:d.types.length≤1048576
def vNs (d:Nd):Bool:=((d.names.length:Int)==nOf d)&&d.names.all vNm
set_option maxHeartbeats 2000000 in
set_option maxRecDepth 1000000 in
theorem validNames_any (d:Nd)(vt vn vy:Value)(w:World)(h:NV w d vt vn vy)(hb:NB d)(hT:Lib.Utf8Tabs 3 4 w):
 Calls Tryz.prog 124 #[nagg d vt vn vy] w fun e w'=>e = .returned (.bool (vNs d))∧Below w.heap.size w w':=by
 obtain⟨W1,hW1⟩:∃W1,w.alloc (.cells #[.int .i64 d.kind,.int .i64 d.n,vt,vn,vy,.int .i64 d.count] 51)=W1:=⟨_,rfl⟩
 have hB1:Below w.heap.size w W1:=by rw[← hW1];exact (Below.refl _ _).alloc (Nat.le_refl _) _
 have hBk:Blk W1 w.heap.size 51 #[.int .i64 d.kind,.int .i64 d.n,vt,vn,vy,.int .i64 d.count]:=by rw[← hW1];exact Blk.new _ _ _
 have HO:=hide (namesOf_any d vt vn vy W1.drew (h.types.below hB1.drew) hb.types)
 have HN:Hid (vNs d=(((d.names.length:Int)==nOf d)&&d.names.all vNm)):=rfl
 have HS:=hide h.names
 have HE:=hide hb.each
 have HT:=hide hT
 have hML:=hb.names
 obtain⟨Z,hZ⟩:∃Z,nOf d=Z:=⟨_,rfl⟩
 rw[hZ]at HO HN
 obtain⟨an,bn,on,cn,hvn,han,hcn⟩:=h.names
 subst hvn
 have HC:=hide hcn
 unfold nagg at *
 obtain⟨K,N,T,M,Y,C⟩:=d
 simp only at HO HN HS HE han HC hBk hW1 hML ⊢
 have HW:=hide hW1
 have HB1:=hide hB1
 have HBK:=hide hBk
 clear hW1 hB1 hBk hcn h hb hT hZ
 have b0:=HBK.out.cell 0
 have b1:=HBK.out.cell 1
 have b2:=HBK.out.cell 2
 have b3:=HBK.out.cell 3
 have b4:=HBK.out.cell 4
 have b5:=HBK.out.cell 5
 simp only[List.getElem?_toArray,List.getElem?_cons_succ,List.getElem?_cons_zero]at b0 b1 b2 b3 b4 b5
 have hmx:Tryz.prog.follows .mixedOrders=true:=by kernel_rfl
 have HK:Hid (∀w2,Below W1.drew.heap.size W1.drew w2→w2.cell? ⟨w.heap.size,3,none⟩=some (.slice an M.length cn)∧Below w.heap.size w w2):=fun w2 hb2=>
  ⟨by have:=cell_kept (w:=W1.drew) (p:=⟨w.heap.size,3,none⟩) b3 hb2;exact this,HB1.out.drew.trans (hb2.mono HB1.out.size)⟩
 by_cases hne:(M.length:Int)=Z
 ·have e1:((M.length:Int) != Z)=false:=by rw[bne_eq_false_iff_eq];exact hne
  have HN2:Hid (vNs ⟨K,N,T,M,Y,C⟩=M.all vNm):=by show _=_;rw[HN.out,beq_iff_eq.2 hne];rfl
  clear hne
  go_enter Tryz.func124,Tryz.ntmps124
  go_wp2_with fail
  rw[HW.out]
  go_region_with (go_at_call 142;refine HO.out.mono ?_;rintro e w2 ⟨rfl,hb2⟩;have c3:=(HK.out w2 hb2).1;have HB2:=hide (HK.out w2 hb2).2;clear hb2)
  all_goals go_wp2
  all_goals
   go_loopw [14] (fun ix wr=>∃k:Nat,k≤M.length∧ix = .int .i64 k∧(M.drop k).all vNm=M.all vNm∧Below w.heap.size w wr) (fun ix _=>M.length - (intOf ix).toNat)
   case atStart=>exact⟨0,Nat.zero_le _,rfl,rfl,HB2.out⟩
   case round=>
    obtain⟨k,hk,rfl,hok,hb⟩:=hrel
    have HB:=hide hb
    by_cases hlt:k<M.length
    ·obtain rfl:=han (by omega)
     obtain⟨x,hx,hxs⟩:=HC.out k hlt
     have g:=cell_kept hx hb
     have hz:=HE.out k hlt
     have hd:M.drop k=M.getD k .empty::M.drop (k+1):=by
      rw[List.drop_eq_getElem_cons hlt,List.getD_eq_getElem?_getD,List.getElem?_eq_getElem hlt];rfl
     rw[hd,List.all_cons]at hok
     obtain⟨s,hs⟩:∃s,M.getD k .empty=s:=⟨_,rfl⟩
     rw[hs]at hxs hz hok
     have HV:=hide (validName_any x s wr (hxs.below hb) hz (Utf8Tabs_below HT.out hb))
     obtain⟨B,hB⟩:∃B,vNm s=B:=⟨_,rfl⟩
     rw[hB]at HV hok
     have HOK:=hide hok
     have hlti:(k:Int)<(M.length:Int):=by omega
     clear hd hs hx hxs hz hok hB hb
     go_wp2_with fail
     refine HV.out.mono ?_
     rintro e w4 ⟨rfl,hb4⟩
     have HB4:Hid (Below w.heap.size w w4):=HB.out.trans (hb4.mono HB.out.size)
     clear hb4
     cases B with
     |true=>
      have HR:Hid ((M.drop (k+1)).all vNm=M.all vNm):=HOK.out
      go_wp2
      go_roundw
      case rel=>exact⟨k+1,by omega,by go_num,HR.out,HB4.out⟩
      case measure=>simp[intOf];omega
     |false=>
      have HR:Hid (M.all vNm=false):=HOK.out.symm
      go_wp2
      go_ret
      exact⟨by rw[HN2.out,HR.out];rfl,HB4.out⟩
    ·have e:k=M.length:=by omega
     have hge:¬(k:Int)<(M.length:Int):=by omega
     have HR:Hid (M.all vNm=true):=by show _=_;rw[← hok,e,List.drop_length];rfl
     clear hok hb
     go_wp2
     go_ret
     exact⟨by rw[HN2.out,HR.out];rfl,HB.out⟩
 ·have e1:((M.length:Int) != Z)=true:=by rw[bne_iff_ne];exact hne
  have HN2:Hid (vNs ⟨K,N,T,M,Y,C⟩=false):=by show _=_;rw[HN.out,beq_eq_false_iff_ne.2 hne];rfl
  clear hne
  go_enter Tryz.func124,Tryz.ntmps124
  go_wp2_with fail
  rw[HW.out]
  go_region_with (go_at_call 142;refine HO.out.mono ?_;rintro e w2 ⟨rfl,hb2⟩;have c3:=(HK.out w2 hb2).1;have HB2:=hide (HK.out w2 hb2).2;clear hb2)
  all_goals go_wp2
  all_goals go_ret
  all_goals exact⟨by rw[HN2.out];rfl,HB2.out⟩
def vFd (d:Nd):Bool:=decide (0≤d.n)&&(decide (d.n≤gNk d.kind)&&(vTx d&&(vTy d&&vNs d)))
set_option maxHeartbeats 2000000 in
set_option maxRecDepth 1000000 in
theorem validFields_any (d:Nd)(vt vn vy:Value)(w:World)(h:NV w d vt vn vy)(hb:NB d)(hT:Lib.Utf8Tabs 3 4 w):
 Calls Tryz.prog 88 #[nagg d vt vn vy] w fun e w'=>e = .returned (.bool (vFd d))∧Below w.heap.size w w':=by
 obtain⟨W1,hW1⟩:∃W1,w.alloc (.cells #[.int .i64 d.kind,.int .i64 d.n,vt,vn,vy,.int .i64 d.count] 51)=W1:=⟨_,rfl⟩
 have hB1:Below w.heap.size w W1:=by rw[← hW1];exact (Below.refl _ _).alloc (Nat.le_refl _) _
 have hBk:Blk W1 w.heap.size 51 #[.int .i64 d.kind,.int .i64 d.n,vt,vn,vy,.int .i64 d.count]:=by rw[← hW1];exact Blk.new _ _ _
 have HX:=hide (fun w2 (hb2:Below w.heap.size w w2)=>validText_any d vt vn vy w2 (h.text.below hb2) hb.text (Utf8Tabs_below hT hb2))
 have HY:=hide (fun w2 (hb2:Below w.heap.size w w2)=>validTypes_any d vt vn vy w2 (h.types.below hb2) hb.types)
 have HZ:=hide (fun w2 (hb2:Below w.heap.size w w2)=>validNames_any d vt vn vy w2 (h.below hb2) hb (Utf8Tabs_below hT hb2))
 have HG:=hide (fun w=>greatestN_any d.kind w)
 have HN:Hid (vFd d=(decide (0≤d.n)&&(decide (d.n≤gNk d.kind)&&(vTx d&&(vTy d&&vNs d))))):=rfl
 obtain⟨X,hX⟩:∃X,vTx d=X:=⟨_,rfl⟩
 obtain⟨Y,hY⟩:∃Y,vTy d=Y:=⟨_,rfl⟩
 obtain⟨Z,hZ⟩:∃Z,vNs d=Z:=⟨_,rfl⟩
 obtain⟨V,hV⟩:∃V,vFd d=V:=⟨_,rfl⟩
 obtain⟨G,hG⟩:∃G,gNk d.kind=G:=⟨_,rfl⟩
 simp only[hX]at HX HN
 simp only[hY]at HY HN
 simp only[hZ]at HZ HN
 simp only[hG]at HG HN
 simp only[hV]at HN ⊢
 unfold nagg at *
 obtain⟨K,N,T,M,S,C⟩:=d
 simp only at HX HY HZ HG HN hBk hW1 ⊢
 have HW:=hide hW1
 have HB1:=hide hB1
 have HBK:=hide hBk
 clear hW1 hB1 hBk h hb hT hX hY hZ hV hG
 have b0:=HBK.out.cell 0
 have b1:=HBK.out.cell 1
 have b2:=HBK.out.cell 2
 have b3:=HBK.out.cell 3
 have b4:=HBK.out.cell 4
 have b5:=HBK.out.cell 5
 simp only[List.getElem?_toArray,List.getElem?_cons_succ,List.getElem?_cons_zero]at b0 b1 b2 b3 b4 b5
 have HK:Hid (∀w2,Below W1.drew.heap.size W1.drew w2→w2.cell? ⟨w.heap.size,0,none⟩=some (.int .i64 K)∧w2.cell? ⟨w.heap.size,1,none⟩=some (.int .i64 N)∧w2.cell? ⟨w.heap.size,2,none⟩=some vt∧w2.cell? ⟨w.heap.size,3,none⟩=some vn∧w2.cell? ⟨w.heap.size,4,none⟩=some vy∧w2.cell? ⟨w.heap.size,5,none⟩=some (.int .i64 C)∧Below w.heap.size w w2):=fun w2 hb2=>
  ⟨by have:=cell_kept (w:=W1.drew) (p:=⟨w.heap.size,0,none⟩) b0 hb2;exact this,by have:=cell_kept (w:=W1.drew) (p:=⟨w.heap.size,1,none⟩) b1 hb2;exact this,by have:=cell_kept (w:=W1.drew) (p:=⟨w.heap.size,2,none⟩) b2 hb2;exact this,by have:=cell_kept (w:=W1.drew) (p:=⟨w.heap.size,3,none⟩) b3 hb2;exact this,by have:=cell_kept (w:=W1.drew) (p:=⟨w.heap.size,4,none⟩) b4 hb2;exact this,by have:=cell_kept (w:=W1.drew) (p:=⟨w.heap.size,5,none⟩) b5 hb2;exact this,HB1.out.drew.trans (hb2.mono HB1.out.size)⟩
 have hmx:Tryz.prog.follows .mixedOrders=true:=by kernel_rfl
 by_cases h0:0≤N
 ·have d0:decide ((0:Int)≤N)=true:=decide_eq_true h0
  rw[d0,Bool.true_and]at HN
  by_cases h1:N≤G
  ·have d1:decide (N≤G)=true:=decide_eq_true h1
   rw[d1,Bool.true_and]at HN
   clear h0 h1
   cases X with
   |false=>
    go_enter Tryz.func88,Tryz.ntmps88
    go_wp2_with fail
    rw[HW.out]
    go_region_with (first
     |(go_at_call 121;refine (HG.out _).mono ?_;rintro e w2 ⟨rfl,rfl⟩)
     |(go_at_call 122;refine (HX.out _ HB1.out.drew).mono ?_;rintro e w2 ⟨rfl,hb2⟩;have HB2:=hide (HK.out w2 hb2).2.2.2.2.2.2;clear hb2))
    all_goals go_wp2
    all_goals go_ret
    all_goals exact⟨by rw[HN.out];rfl,HB2.out⟩
   |true=>
    cases Y with
    |false=>
     go_enter Tryz.func88,Tryz.ntmps88
     go_wp2_with fail
     rw[HW.out]
     go_region_with (first
      |(go_at_call 121;refine (HG.out _).mono ?_;rintro e w2 ⟨rfl,rfl⟩)
      |(go_at_call 122;refine (HX.out _ HB1.out.drew).mono ?_;rintro e w2 ⟨rfl,hb2⟩;obtain⟨c0,c1,c2,c3,c4,c5,HB2'⟩:=HK.out w2 hb2;have HB2:=hide HB2';have HD2:=hide hb2;clear hb2 HB2')
      |(go_at_call 123;refine (HY.out _ HB2.out).mono ?_;rintro e w3 ⟨rfl,hb3⟩;have HB3:=hide (HB2.out.trans (hb3.mono HB2.out.size));clear hb3))
     all_goals go_wp2
     all_goals go_ret
     all_goals exact⟨by rw[HN.out];rfl,HB3.out⟩
    |true=>
     go_enter Tryz.func88,Tryz.ntmps88
     go_wp2_with fail
     rw[HW.out]
     go_region_with (first
      |(go_at_call 121;refine (HG.out _).mono ?_;rintro e w2 ⟨rfl,rfl⟩)
      |(go_at_call 122;refine (HX.out _ HB1.out.drew).mono ?_;rintro e w2 ⟨rfl,hb2⟩;obtain⟨c0,c1,c2,c3,c4,c5,HB2'⟩:=HK.out w2 hb2;have HB2:=hide HB2';have HD2:=hide hb2;clear hb2 HB2')
      |(go_at_call 123;refine (HY.out _ HB2.out).mono ?_;rintro e w3 ⟨rfl,hb3⟩;obtain⟨e0,e1,e2,e3,e4,e5,HB3'⟩:=HK.out w3 (HD2.out.trans (hb3.mono HD2.out.size));have HB3:=hide HB3';clear hb3 HB3')
      |(go_at_call 124;refine (HZ.out _ HB3.out).mono ?_;rintro e w4 ⟨rfl,hb4⟩;have HB4:=hide (HB3.out.trans (hb4.mono HB3.out.size));clear hb4))
     all_goals go_wp2
     all_goals go_ret
     all_goals exact⟨by rw[HN.out];rfl,HB4.out⟩
  ·have d1:decide (N≤G)=false:=decide_eq_false h1
   rw[d1,Bool.false_and]at HN
   have HBD:=hide HB1.out.drew
   clear h0 h1
   go_enter Tryz.func88,Tryz.ntmps88
   go_wp2_with fail
   rw[HW.out]
   go_region_with (go_at_call 121;refine (HG.out _).mono ?_;rintro e w2 ⟨rfl,rfl⟩)
   all_goals go_wp2
   all_goals go_ret
   all_goals exact⟨by rw[HN.out];rfl,HBD.out⟩
 ·have d0:decide ((0:Int)≤N)=false:=decide_eq_false h0
  rw[d0,Bool.false_and]at HN
  have HBD:=hide HB1.out.drew
  clear h0
  go_enter Tryz.func88,Tryz.ntmps88
  go_wp2_with fail
  rw[HW.out]
  go_region
  all_goals go_wp2
  all_goals go_ret
  all_goals exact⟨by rw[HN.out];rfl,HBD.out⟩
end Go.Proofs.YtbiakdjpeblclaaGreatDoor

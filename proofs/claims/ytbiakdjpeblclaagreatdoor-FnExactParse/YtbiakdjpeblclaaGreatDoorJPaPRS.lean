/-
  Reading parts: what a reading function leaves, its result under way, leaves and rows of parts.
-/
import Derived.Test.YtbiakdjpeblclaaGreatDoorJPaRF
import Derived.Test.YtbiakdjpeblclaaGreatDoorJPaPND
import Derived.Test.YtbiakdjpeblclaaGreatDoorJPaLX
import Derived.Test.YtbiakdjpeblclaaGreatDoorJPaC
import Derived.Test.YtbiakdjpeblclaaGreatDoorJPaE
namespace Go.Proofs.YtbiakdjpeblclaaGreatDoor
open Go.RowKit
def ExQ (c:PsC)(e:PsE)(w:World)(x:Pt × Ps)(r:Ending)(w':World):Prop:=
 ∃vt vp,r = .returned (.agg #[vt,vp])∧PV w' (fun g=>w.heap.size≤g) vt vp x.1∧RdQ c e x.2 w w'
structure RSt (w V:World)(c:PsC)(e:PsE)(p:Ps):Prop where
 ps:PsW V c e p
 gw:Gw (· = c.P) w V
 res:Blk V w.heap.size 45 #[.slice none 0 0,.slice none 0 0]
 lt:c.P<w.heap.size
theorem RSt.rd {w V V':World}{c:PsC}{e:PsE}{p p':Ps}(h:RSt w V c e p)(hq:RdQ c e p' V V'):RSt w V' c e p':=
 ⟨hq.1,h.gw.trans hq.2 (fun _ _ q=>q),hq.2.blk h.res (by have:=h.lt;show ¬w.heap.size=c.P;omega),h.lt⟩
theorem RSt.below {w V V':World}{c:PsC}{e:PsE}{p:Ps}(h:RSt w V c e p)(hb:Below V.heap.size V V'):RSt w V' c e p:=
 ⟨h.ps.below hb,h.gw.trans (Gw.of_below (P:=fun _=>False) hb) (fun _ _ q=>q.elim),h.res.below hb,h.lt⟩
theorem RSt.size {w V:World}{c:PsC}{e:PsE}{p:Ps}(h:RSt w V c e p):w.heap.size<V.heap.size:=h.res.lt
theorem RSt.start {w:World}{c:PsC}{e:PsE}{p:Ps}(h:PsW w c e p):RSt w (w.alloc (.cells #[.slice none 0 0,.slice none 0 0] 45)) c e p:=
 ⟨h.below ((Below.refl _ _).alloc (Nat.le_refl _) _),Gw.of_below ((Below.refl _ _).alloc (Nat.le_refl _) _),Blk.new _ _ _,h.blk.lt⟩
theorem RSt.fin {w V:World}{c:PsC}{e:PsE}{p:Ps}{vt vp:Value}{x:Pt}(h:RSt w V c e p)(hv:PV V (fun g=>w.heap.size<g) vt vp x):ExQ c e w (x,p) (.returned (.agg #[vt,vp])) ((V.setCell ⟨w.heap.size,0,none⟩ vt).setCell ⟨w.heap.size,1,none⟩ vp):=by
 have g1:Gw (· = w.heap.size) V ((V.setCell ⟨w.heap.size,0,none⟩ vt).setCell ⟨w.heap.size,1,none⟩ vp):=(Gw.set V _ 0 vt).trans (Gw.set _ _ 1 vp) (fun _ _ q=>q)
 refine⟨vt,vp,rfl,(hv.gw g1 (fun k hk=>by rw[hk];exact Nat.lt_irrefl _)).mono (fun g hg _=>Nat.le_of_lt hg),?_,?_⟩
 ·have hb:=h.ps
  have n:c.P≠w.heap.size:=by have:=h.lt;omega
  refine⟨(hb.blk.other 0 vt n).other 1 vp n,hb.sa,fun j hj=>g1.cell (hb.src j hj) (by show ¬c.b=w.heap.size;have:=(hb.sa (by omega)).2;have:=h.lt;omega),hb.cap,hb.ta,fun i hi=>?_,hb.tin,hb.tl,hb.szl,hb.at_,hb.bad⟩
  have n:¬c.tb=w.heap.size:=by have:=(hb.ta (by omega)).2;have:=h.lt;omega
  exact⟨g1.cell (hb.tok i hi).1 n,g1.cell (hb.tok i hi).2.1 n,g1.cell (hb.tok i hi).2.2 n⟩
 ·exact h.gw.trans g1 (fun j hj q=>by omega)
theorem nv_plain (w:World)(G:Nat→Prop)(k n:Int):(⟨{ ndK k with n:=n },.slice none 0 0,.slice none 0 0,.slice none 0 0⟩:Nv).Ok w G:=
 ⟨RwG.nil _ _ _ _,⟨[],rfl,RwG.nil _ _ _ _,fun j x h=>by simp[ndK]at h⟩,RwG.nil _ _ _ _,by show (0:Nat)≤_;omega,by show (0:Nat)≤_;omega,fun x hx=>by simp[ndK]at hx,by show (0:Nat)≤_;omega⟩
theorem nv_text {w:World}{G:Nat→Prop}{v:Value}{s:ByteArray}(h:BG w G v s)(hs:s.size≤1048576):(⟨{ ndK 17 with text:=s },v,.slice none 0 0,.slice none 0 0⟩:Nv).Ok w G:=
 ⟨h,⟨[],rfl,RwG.nil _ _ _ _,fun j x h=>by simp[ndK]at h⟩,RwG.nil _ _ _ _,hs,by show (0:Nat)≤_;omega,fun x hx=>by simp[ndK]at hx,by show (0:Nat)≤_;omega⟩
theorem nv_name {w:World}{G:Nat→Prop}{g:Nat}{k:Int}{t:TypeId}{v:Value}{s:ByteArray}(hb:Blk w g t #[v])(hg:G g)(h:BG w G v s)(hs:s.size≤1048576):(⟨{ ndK k with names:=[s] },.slice none 0 0,.slice (some ⟨g,0,none⟩) 1 1,.slice none 0 0⟩:Nv).Ok w G:=
 ⟨RwG.nil _ _ _ _,⟨[v],rfl,RwG.of_blk hb hg 1,fun j x hj=>by
  cases j with
  |zero=>obtain rfl:s=x:=by simpa [ndK] using hj
         exact⟨v,rfl,h⟩
  |succ j=>simp at hj⟩,RwG.nil _ _ _ _,by show (0:Nat)≤_;omega,by show (1:Nat)≤_;omega,fun x hx=>by rw[List.mem_singleton.1 hx];exact hs,by show (0:Nat)≤_;omega⟩
theorem pr_nil (w:World)(G:Nat→Prop):PR w G (.slice none 0 0) []:=⟨[],RwG.nil _ _ _ _,Ms.nil w G⟩
theorem pr_one {w:World}{G:Nat→Prop}{g:Nat}{t:TypeId}{vt vp:Value}{x:Pt}(hb:Blk w g t #[vt,vp])(hg:G g)(h:PV w G vt vp x):PR w G (.slice (some ⟨g,0,none⟩) 1 1) [x]:=
 ⟨[(vt,vp)],RwG.of_blk hb hg 1,Ms.one h⟩
theorem pr_two {w:World}{G:Nat→Prop}{g:Nat}{t:TypeId}{vt vp ut up:Value}{x y:Pt}(hb:Blk w g t #[vt,vp,ut,up])(hg:G g)(h:PV w G vt vp x)(k:PV w G ut up y):PR w G (.slice (some ⟨g,0,none⟩) 2 2) [x,y]:=
 ⟨[(vt,vp),(ut,up)],RwG.of_blk hb hg 2,(Ms.one h).app (Ms.one k)⟩
set_option maxHeartbeats 400000 in
set_option maxRecDepth 1000000 in
theorem letter_any (c:Nat)(w:World)(hc:c<256):
 Calls Tryz.prog 60 #[.int .u8 c] w fun e w'=>e = .returned (.bool (isL c))∧w'=w:=by
 go_enter Tryz.func60,Tryz.ntmps60
 go_wp2
 all_goals go_ret
 all_goals exact⟨ret_bool (by unfold isL;symm;first|(rw[decide_eq_true_iff];omega)|(rw[decide_eq_false_iff_not];omega)|(rw[Bool.eq_iff_iff];simp;omega)),rfl⟩
set_option maxHeartbeats 400000 in
set_option maxRecDepth 1000000 in
theorem number_any (c:Nat)(w:World)(hc:c<256):
 Calls Tryz.prog 93 #[.int .u8 c] w fun e w'=>e = .returned (.bool (isD c))∧w'=w:=by
 go_enter Tryz.func93,Tryz.ntmps93
 go_wp2
 all_goals go_ret
 all_goals exact⟨ret_bool (by unfold isD;symm;first|(rw[decide_eq_true_iff];omega)|(rw[decide_eq_false_iff_not];omega)|(rw[decide_eq_decide];omega)),rfl⟩
set_option maxHeartbeats 1000000 in
set_option maxRecDepth 1000000 in
theorem run_any (b off cap p:Nat)(s:ByteArray)(w:World)(hs:s.size≤1048576)(hp:p≤s.size)(hc:∀j,j<s.size→w.cell? ⟨b,off+j,none⟩=some (bts s j)):
 Calls Tryz.prog 59 #[.slice (some ⟨b,off,none⟩) s.size cap,.int .i64 p] w fun e w'=>e = .returned (.int .i64 (run s p))∧w'=w:=by
 have HC:=hide hc
 clear hc
 go_enter Tryz.func59,Tryz.ntmps59
 go_wp2
 go_loopw [5] (fun ix wr=>∃n:Nat,ix = .int .i64 n∧p+n≤s.size∧(∀j,j<n→isR (s.get! (p+j)).toNat=true)∧wr=w) (fun ix _=>s.size - (intOf ix).toNat)
 case atStart=>exact⟨0,rfl,hp,fun j hj=>absurd hj (Nat.not_lt_zero _),rfl⟩
 case round=>
  obtain⟨n,rfl,hn,hall,rfl⟩:=hrel
  have HALL:=hide hall
  clear hall
  by_cases hlt:p+n<s.size
  ·have t0:decide ((p:Int)+(n:Int)<(s.size:Int))=true:=decide_eq_true (by omega)
   have g1:wr.cell? ⟨b,off+(p+n),none⟩=some (.int .u8 ((s.get! (p+n)).toNat:Int)):=HC.out (p+n) hlt
   have b1:(s.get! (p+n)).toNat<256:=(s.get! (p+n)).toNat_lt
   obtain⟨y,hy⟩:∃y:Nat,(s.get! (p+n)).toNat=y:=⟨_,rfl⟩
   have HY:=hide hy
   rw[hy]at g1 b1
   clear hy
   have HL:=hide (fun w=>letter_any y w b1)
   have HN:=hide (fun w=>number_any y w b1)
   cases hl:isL y with
   |true=>
    rw[hl]at HL
    have HR:Hid (isR (s.get! (p+n)).toNat=true):=by show _=_;rw[HY.out,isR_iff];exact .inl hl
    clear hl
    go_wp2_with fail
    refine (HL.out _).mono ?_
    rintro e w' ⟨rfl,rfl⟩
    go_wp2
    go_roundw
    case rel=>exact⟨n+1,by go_num,by omega,fun j hj=>by
     by_cases e:j=n
     ·rw[e];exact HR.out
     ·exact HALL.out j (by omega),by first|rfl|trivial⟩
    case measure=>simp[intOf];omega
   |false=>
    rw[hl]at HL
    cases hd:isD y with
    |true=>
     rw[hd]at HN
     have HR:Hid (isR (s.get! (p+n)).toNat=true):=by show _=_;rw[HY.out,isR_iff];exact .inr hd
     clear hl hd
     go_wp2_with fail
     refine (HL.out _).mono ?_
     rintro e w' ⟨rfl,rfl⟩
     go_wp2_with fail
     refine (HN.out _).mono ?_
     rintro e w' ⟨rfl,rfl⟩
     go_wp2
     go_roundw
     case rel=>exact⟨n+1,by go_num,by omega,fun j hj=>by
      by_cases e:j=n
      ·rw[e];exact HR.out
      ·exact HALL.out j (by omega),by first|rfl|trivial⟩
     case measure=>simp[intOf];omega
    |false=>
     rw[hd]at HN
     have HR:Hid (run s p=n):=run_is hn HALL.out (fun g=>by
      rw[HY.out,isR_iff,hl,hd]at g
      rcases g.2 with h|h<;>cases h)
     clear hl hd
     go_wp2_with fail
     refine (HL.out _).mono ?_
     rintro e w' ⟨rfl,rfl⟩
     go_wp2_with fail
     refine (HN.out _).mono ?_
     rintro e w' ⟨rfl,rfl⟩
     go_wp2
     go_ret
     exact⟨by rw[HR.out];rfl,by first|rfl|trivial⟩
  ·have t0:decide ((p:Int)+(n:Int)<(s.size:Int))=false:=decide_eq_false (by omega)
   have HR:Hid (run s p=n):=run_is hn HALL.out (fun g=>hlt g.1)
   go_wp2
   go_ret
   exact⟨by rw[HR.out];rfl,by first|rfl|trivial⟩
set_option maxHeartbeats 1000000 in
set_option maxRecDepth 1000000 in
theorem value_any (b off cap p k:Nat)(s:ByteArray)(w:World)(hs:s.size≤1048576)(hk:p+k≤s.size)(hc:∀j,j<s.size→w.cell? ⟨b,off+j,none⟩=some (bts s j)):
 Calls Tryz.prog 62 #[.slice (some ⟨b,off+p,none⟩) k cap] w fun e w'=>e = .returned (.int .i64 (nval s k p 0))∧w'=w:=by
 have HC:=hide hc
 clear hc
 obtain⟨R,hR⟩:∃R,nval s k p 0=R:=⟨_,rfl⟩
 have HR:=hide hR
 rw[hR]
 clear hR
 go_enter Tryz.func62,Tryz.ntmps62
 go_wp2
 go_loopw [3,4] (fun vx ix wr=>∃V n:Nat,vx = .int .i64 V∧ix = .int .i64 n∧n≤k∧V≤99999∧nval s (k - n) (p+n) V=R∧wr=w) (fun _ ix _=>k - (intOf ix).toNat)
 case atStart=>exact⟨0,0,rfl,rfl,Nat.zero_le _,by omega,HR.out,rfl⟩
 case round=>
  obtain⟨V,n,rfl,rfl,hn,hV,hval,rfl⟩:=hrel
  have HVAL:=hide hval
  clear hval
  by_cases hlt:n<k
  ·have t0:decide ((n:Int)<(k:Int))=true:=decide_eq_true (by omega)
   have g1:wr.cell? ⟨b,off+p+n,none⟩=some (.int .u8 ((s.get! (p+n)).toNat:Int)):=by rw[Nat.add_assoc];exact HC.out (p+n) (by omega)
   have b1:(s.get! (p+n)).toNat<256:=(s.get! (p+n)).toNat_lt
   have HST:Hid (nval s (k - n) (p+n) V=if isD (s.get! (p+n)).toNat=true then (if 99999<V*10+((s.get! (p+n)).toNat - 48) then -1 else nval s (k - (n+1)) (p+(n+1)) (V*10+((s.get! (p+n)).toNat - 48))) else -1):=by
    show _=_
    obtain⟨f,hf⟩:∃f,k - n=f+1:=⟨k - n - 1,by omega⟩
    rw[hf,nval,show k - (n+1)=f by omega,← Nat.add_assoc]
   obtain⟨y,hy⟩:∃y:Nat,(s.get! (p+n)).toNat=y:=⟨_,rfl⟩
   rw[hy]at g1 b1 HST
   clear hy
   have HN:=hide (fun w=>number_any y w b1)
   cases hd:isD y with
   |true=>
    rw[hd]at HN
    have hd':=(isD_iff y).1 hd
    obtain⟨D,hD⟩:∃D:Nat,(y:Int) - 48=(D:Int):=⟨y - 48,by omega⟩
    have hD9:(D:Int)≤9:=by omega
    have hyD:y - 48=D:=by omega
    rw[if_pos hd,hyD]at HST
    have hVi:(V:Int)≤99999:=by omega
    have hy1:(48:Int)≤(y:Int):=by omega
    have hy2:(y:Int)≤57:=by omega
    clear hd hd' hyD
    by_cases hb:99999<V*10+D
    ·have t1:decide ((99999:Int)<(V:Int)*10+(D:Int))=true:=decide_eq_true (by omega)
     have HE:Hid (R = -1):=by show _=_;rw[← HVAL.out,HST.out,if_pos hb]
     clear hb
     go_wp2_with fail
     refine (HN.out _).mono ?_
     rintro e w' ⟨rfl,rfl⟩
     go_wp2
     go_ret
     exact⟨by rw[HE.out];rfl,by first|rfl|trivial⟩
    ·have t1:decide ((99999:Int)<(V:Int)*10+(D:Int))=false:=decide_eq_false (by omega)
     have HE:Hid (nval s (k - (n+1)) (p+(n+1)) (V*10+D)=R):=by show _=_;rw[← HVAL.out,HST.out,if_neg hb]
     go_wp2_with fail
     refine (HN.out _).mono ?_
     rintro e w' ⟨rfl,rfl⟩
     go_wp2
     go_roundw
     case rel=>exact⟨V*10+D,n+1,by go_num,by go_num,by omega,by omega,HE.out,by first|rfl|trivial⟩
     case measure=>simp[intOf];omega
   |false=>
    rw[hd]at HN
    have HE:Hid (R = -1):=by show _=_;rw[← HVAL.out,HST.out,if_neg (by rw[hd];decide)]
    clear hd
    go_wp2_with fail
    refine (HN.out _).mono ?_
    rintro e w' ⟨rfl,rfl⟩
    go_wp2
    go_ret
    exact⟨by rw[HE.out];rfl,by first|rfl|trivial⟩
  ·have t0:decide ((n:Int)<(k:Int))=false:=decide_eq_false (by omega)
   have HE:Hid (R=(V:Int)):=by show _=_;rw[← HVAL.out,show k - n=0 by omega];rfl
   go_wp2
   go_ret
   exact⟨by rw[HE.out];rfl,by first|rfl|trivial⟩
set_option maxHeartbeats 400000 in
set_option maxRecDepth 1000000 in
theorem digit_any (c:Nat)(w:World)(hc:c<256):
 Calls Tryz.prog 127 #[.int .u8 c] w fun e w'=>e = .returned (.int .i64 (hd c))∧w'=w:=by
 have hci:(c:Int)<256:=by omega
 go_enter Tryz.func127,Tryz.ntmps127
 go_wp2
 all_goals go_ret
 all_goals exact⟨ret_int (by unfold hd;repeat' split<;>omega),rfl⟩
def Gives (w w':World)(e:Ending)(l:List Nat)(n:Nat):Prop:=
 ∃a g c,e = .returned (.tuple #[.slice a l.length c,.int .i64 (n:Int)])∧(0<l.length→a=some ⟨g,0,none⟩)∧(∀j,j<l.length→w'.cell? ⟨g,j,none⟩=some (.int .u8 (l.getD j 0:Nat)))∧Below w.heap.size w w'
theorem gives_nil {w w':World}{l:List Nat × Nat}(h:l=([],0))(hb:Below w.heap.size w w'):Gives w w' (.returned (.tuple #[.slice none 0 0,.int .i64 0])) l.1 l.2:=by
 rw[h];exact⟨none,0,0,rfl,fun h=>absurd h (by decide),fun j hj=>absurd hj (Nat.not_lt_zero _),hb⟩
set_option maxHeartbeats 1000000 in
set_option maxRecDepth 1000000 in
theorem esc_short (b off cap i:Nat)(s:ByteArray)(w:World)(hs:s.size≤1048576)(hi:i≤s.size)(hc:∀j,j<s.size→w.cell? ⟨b,off+j,none⟩=some (bts s j))
 (hno:¬(i+1<s.size∧(s.get! i).toNat=117∧(s.get! (i+1)).toNat=123)):
 Calls Tryz.prog 95 #[.slice (some ⟨b,off,none⟩) s.size cap,.int .i64 i] w fun e w'=>Gives w w' e (esc s i).1 (esc s i).2:=by
 by_cases h0:s.size≤i
 ·have HE:Hid (esc s i=([],0)):=by show _=_;unfold esc;rw[if_pos h0]
  have t0:decide ((s.size:Int)≤(i:Int))=true:=decide_eq_true (by omega)
  clear hc hno
  go_enter Tryz.func95,Tryz.ntmps95
  go_wp2
  go_ret2
  exact gives_nil HE.out (Below.refl _ _)
 have hlt:i<s.size:=by omega
 have g0:w.cell? ⟨b,off+i,none⟩=some (.int .u8 ((s.get! i).toNat:Int)):=hc i hlt
 have b0:(s.get! i).toNat<256:=(s.get! i).toNat_lt
 obtain⟨y,hy⟩:∃y:Nat,(s.get! i).toNat=y:=⟨_,rfl⟩
 by_cases hq:y=34∨y=92
 ·have HE:Hid (esc s i=([y],1)):=by show _=_;unfold esc;rw[if_neg h0,hy,if_pos hq]
  rw[hy]at g0 b0
  clear hc hno hy
  by_cases h34:y=34
  ·have t1:((y:Int)==34)=true:=by rw[beq_iff_eq];omega
   clear hq h34
   go_enter Tryz.func95,Tryz.ntmps95
   go_wp2
   go_ret2
   rw[HE.out]
   exact⟨some ⟨w.heap.size,0,none⟩,w.heap.size,1,rfl,fun _=>rfl,fun j hj=>by match j,hj with|0,_=>simp,(Below.refl _ _).alloc (Nat.le_refl _) _⟩
  ·have t1:((y:Int)==34)=false:=by rw[beq_eq_false_iff_ne];omega
   have t2:((y:Int)==92)=true:=by rw[beq_iff_eq];omega
   clear hq h34
   go_enter Tryz.func95,Tryz.ntmps95
   go_wp2
   go_ret2
   rw[HE.out]
   exact⟨some ⟨w.heap.size,0,none⟩,w.heap.size,1,rfl,fun _=>rfl,fun j hj=>by match j,hj with|0,_=>simp,(Below.refl _ _).alloc (Nat.le_refl _) _⟩
 have t1:((y:Int)==34)=false:=by rw[beq_eq_false_iff_ne];omega
 have t2:((y:Int)==92)=false:=by rw[beq_eq_false_iff_ne];omega
 by_cases h117:y=117
 ·have t3:((y:Int) != 117)=false:=by rw[bne_eq_false_iff_eq];omega
  by_cases h1:i+1<s.size
  ·have g1:w.cell? ⟨b,off+(i+1),none⟩=some (.int .u8 ((s.get! (i+1)).toNat:Int)):=hc (i+1) h1
   have b1:(s.get! (i+1)).toNat<256:=(s.get! (i+1)).toNat_lt
   obtain⟨z,hz⟩:∃z:Nat,(s.get! (i+1)).toNat=z:=⟨_,rfl⟩
   have hz123:z≠123:=fun e=>hno ⟨h1,by rw[hy];exact h117,by rw[hz];exact e⟩
   have t4:((z:Int) != 123)=true:=by rw[bne_iff_ne];omega
   have t5:decide ((s.size:Int)≤(i:Int)+1)=false:=decide_eq_false (by omega)
   have HE:Hid (esc s i=([],0)):=by show _=_;unfold esc;rw[if_neg h0,hy,if_neg hq,if_pos (.inr (.inr (by rw[hz];exact hz123)))]
   rw[hy]at g0 b0
   rw[hz]at g1 b1
   clear hc hno hy hz hq h117 hz123
   go_enter Tryz.func95,Tryz.ntmps95
   go_wp2
   go_ret2
   exact gives_nil HE.out (Below.refl _ _)
  ·have t5:decide ((s.size:Int)≤(i:Int)+1)=true:=decide_eq_true (by omega)
   have HE:Hid (esc s i=([],0)):=by show _=_;unfold esc;rw[if_neg h0,hy,if_neg hq,if_pos (.inr (.inl (by omega)))]
   rw[hy]at g0 b0
   clear hc hno hy hq h117
   go_enter Tryz.func95,Tryz.ntmps95
   go_wp2
   go_ret2
   exact gives_nil HE.out (Below.refl _ _)
 ·have t3:((y:Int) != 117)=true:=by rw[bne_iff_ne];omega
  have HE:Hid (esc s i=([],0)):=by show _=_;unfold esc;rw[if_neg h0,hy,if_neg hq,if_pos (.inl h117)]
  rw[hy]at g0 b0
  clear hc hno hy hq h117
  go_enter Tryz.func95,Tryz.ntmps95
  go_wp2
  go_ret2
  exact gives_nil HE.out (Below.refl _ _)
set_option maxHeartbeats 1000000 in
set_option maxRecDepth 1000000 in
theorem esc_long (b off cap i:Nat)(s:ByteArray)(w:World)(hs:s.size≤1048576)(hc:∀j,j<s.size→w.cell? ⟨b,off+j,none⟩=some (bts s j))
 (h1:i+1<s.size) (h117:(s.get! i).toNat=117) (h123:(s.get! (i+1)).toNat=123):
 Calls Tryz.prog 95 #[.slice (some ⟨b,off,none⟩) s.size cap,.int .i64 i] w fun e w'=>Gives w w' e (esc s i).1 (esc s i).2:=by
 have g0:w.cell? ⟨b,off+i,none⟩=some (.int .u8 117):=by have:=hc i (by omega);unfold bts at this;rw[h117]at this;exact this
 have g1:w.cell? ⟨b,off+(i+1),none⟩=some (.int .u8 123):=by have:=hc (i+1) h1;unfold bts at this;rw[h123]at this;exact this
 have HC:=hide hc
 have HE:Hid (esc s i=if kc s (i+2) 7<1∨6<kc s (i+2) 7∨s.size≤i+2+kc s (i+2) 7∨(s.get! (i+2+kc s (i+2) 7)).toNat≠125∨pointB (hv s (i+2) (kc s (i+2) 7))=false then ([],0) else (ubytes (hv s (i+2) (kc s (i+2) 7)),kc s (i+2) 7+3)):=by
  show _=_
  have n1:¬s.size≤i:=by omega
  have n2:¬((s.get! i).toNat=34∨(s.get! i).toNat=92):=by omega
  have n3:¬((s.get! i).toNat≠117∨s.size≤i+1∨(s.get! (i+1)).toNat≠123):=by omega
  unfold esc
  rw[if_neg n1,if_neg n2,if_neg n3]
 have t5:decide ((s.size:Int)≤(i:Int)+1)=false:=decide_eq_false (by omega)
 have t0:decide (s.size≤i)=false:=decide_eq_false (by omega)
 clear hc h117 h123
 go_enter Tryz.func95,Tryz.ntmps95
 go_wp2
 go_loopw [6,7] (fun v n wr=>∃k:Nat,k≤7∧n = .int .i64 k∧v = .int .i64 (hv s (i+2) k)∧k+kc s (i+2+k) (7 - k)=kc s (i+2) 7∧wr=w) (fun _ n _=>7 - (intOf n).toNat)
 case atStart=>exact⟨0,by omega,rfl,rfl,by simp,rfl⟩
 case round=>
  obtain⟨k,hk,rfl,rfl,hkc,rfl⟩:=hrel
  have hvl:=hv_lt s (i+2) k
  have HKC:=hide hkc
  clear hkc
  obtain⟨V,hV⟩:∃V,hv s (i+2) k=V:=⟨_,rfl⟩
  rw[hV]at hvl ⊢
  have HV:=hide hV
  clear hV
  have hVb:V<268435456:=by
   have:16 ^ k≤16 ^ 7:=Nat.pow_le_pow_right (by omega) hk
   omega
  clear hvl
  by_cases hin:i+2+k<s.size
  ·have g2:wr.cell? ⟨b,off+(i+2+k),none⟩=some (.int .u8 ((s.get! (i+2+k)).toNat:Int)):=HC.out _ hin
   have b2:(s.get! (i+2+k)).toNat<256:=(s.get! (i+2+k)).toNat_lt
   obtain⟨y,hy⟩:∃y:Nat,(s.get! (i+2+k)).toNat=y:=⟨_,rfl⟩
   rw[hy]at g2 b2
   have HY:=hide hy
   have HD:=hide (fun w=>digit_any y w b2)
   have hdl:=hd_lt y
   obtain⟨d,hd'⟩:∃d,hd y=d:=⟨_,rfl⟩
   rw[hd']at HD hdl
   have HDD:=hide hd'
   clear hy hd'
   have t6:decide ((i:Int)+2+(k:Int)<(s.size:Int))=true:=decide_eq_true (by omega)
   by_cases h7:k<7
   ·have t7:decide ((k:Int)<7)=true:=decide_eq_true (by omega)
    by_cases hd0:0≤d
    ·have t8:decide (0≤d)=true:=decide_eq_true hd0
     have HN:Hid (k+1+kc s (i+2+(k+1)) (7 - (k+1))=kc s (i+2) 7):=kc_more h7 hin (by rw[HY.out,HDD.out];exact hd0) HKC.out
     have HVN:Hid ((hv s (i+2) (k+1):Int)=(V:Int)*16+d):=by
      show _=_
      rw[hv,HV.out,HY.out,HDD.out];omega
     go_wp2_with (go_at_call 127;refine (HD.out _).mono ?_;rintro e w' ⟨rfl,rfl⟩)
     go_roundw
     case rel=>exact⟨k+1,by omega,by go_num,by rw[HVN.out],HN.out,by first|rfl|trivial⟩
     case measure=>simp[intOf];omega
    ·
     have t8:decide (0≤d)=false:=decide_eq_false hd0
     have HK:Hid (kc s (i+2) 7=k):=kc_stop hk (fun g=>hd0 (by have:=g.2.2;rw[HY.out,HDD.out]at this;exact this)) HKC.out
     have tC:decide ((s.size:Int)≤(i:Int)+2+(k:Int))=false:=decide_eq_false (by omega)
     have tB:decide (6<(k:Int))=false:=decide_eq_false (by omega)
     by_cases hA:k<1
     ·have tA:decide ((k:Int)<1)=true:=decide_eq_true (by omega)
      have HR:Hid (esc s i=([],0)):=by show _=_;rw[HE.out,HK.out,if_pos (.inl hA)]
      go_wp2_with (go_at_call 127;refine (HD.out _).mono ?_;rintro e w' ⟨rfl,rfl⟩)
      go_ret2
      exact gives_nil HR.out (Below.refl _ _)
     ·have tA:decide ((k:Int)<1)=false:=decide_eq_false (by omega)
      by_cases h125:y=125
      ·have tD:((y:Int) != 125)=false:=by rw[bne_eq_false_iff_eq];omega
       have HP:=hide (fun w=>point_any (V:Int) w)
       by_cases hp:pointB (V:Int)=true
       ·have HR:Hid (esc s i=(ubytes V,k+3)):=by
         show _=_
         rw[HE.out,HK.out,HV.out,HY.out,if_neg (by rw[hp];simp;omega)]
        rw[hp]at HP
        have hVp:=((pointB_nat V).1 hp).1
        have HU:=hide (fun w=>utf8_any V w (by omega))
        have hul:=ubytes_len V
        obtain⟨U,hU⟩:∃U,ubytes V=U:=⟨_,rfl⟩
        rw[hU]at HU HR hul
        rw[← hul]at HU
        clear hp h125 hU hul
        go_wp2_with (first|(go_at_call 127;refine (HD.out _).mono ?_;rintro e w' ⟨rfl,rfl⟩)|(go_at_call 91;refine (HP.out _).mono ?_;rintro e w' ⟨rfl,rfl⟩)|(go_at_call 92;refine (HU.out _).mono ?_;rintro e w' ⟨rfl,rfl⟩))
        go_ret2
        rw[HR.out]
        refine⟨some ⟨_,0,none⟩,_,_,rfl,fun _=>rfl,fun j hj=>?_,(Below.refl _ _).alloc (Nat.le_refl _) _⟩
        have hj':j<U.length:=hj
        simp[hj',List.getD]
       ·have hp':pointB (V:Int)=false:=by simpa using hp
        have HR:Hid (esc s i=([],0)):=by show _=_;rw[HE.out,HK.out,HV.out,if_pos (.inr (.inr (.inr (.inr hp'))))]
        rw[hp']at HP
        clear hp hp' h125
        go_wp2_with (first|(go_at_call 127;refine (HD.out _).mono ?_;rintro e w' ⟨rfl,rfl⟩)|(go_at_call 91;refine (HP.out _).mono ?_;rintro e w' ⟨rfl,rfl⟩))
        go_ret2
        exact gives_nil HR.out (Below.refl _ _)
      ·have tD:((y:Int) != 125)=true:=by rw[bne_iff_ne];omega
       have HR:Hid (esc s i=([],0)):=by show _=_;rw[HE.out,HK.out,if_pos (.inr (.inr (.inr (.inl (by rw[HY.out];exact h125)))))]
       clear h125
       go_wp2_with (go_at_call 127;refine (HD.out _).mono ?_;rintro e w' ⟨rfl,rfl⟩)
       go_ret2
       exact gives_nil HR.out (Below.refl _ _)
   ·
    have HK:Hid (kc s (i+2) 7=k):=kc_stop hk (fun g=>h7 g.1) HKC.out
    have t7:decide ((k:Int)<7)=false:=decide_eq_false (by omega)
    have tA:decide ((k:Int)<1)=false:=decide_eq_false (by omega)
    have tB:decide (6<(k:Int))=true:=decide_eq_true (by omega)
    have HR:Hid (esc s i=([],0)):=by show _=_;rw[HE.out,HK.out,if_pos (.inr (.inl (by omega)))]
    go_wp2
    go_ret2
    exact gives_nil HR.out (Below.refl _ _)
  ·
   have HK:Hid (kc s (i+2) 7=k):=kc_stop hk (fun g=>hin g.2.1) HKC.out
   have t6:decide ((i:Int)+2+(k:Int)<(s.size:Int))=false:=decide_eq_false (by omega)
   have tC:decide ((s.size:Int)≤(i:Int)+2+(k:Int))=true:=decide_eq_true (by omega)
   have HR:Hid (esc s i=([],0)):=by show _=_;rw[HE.out,HK.out,if_pos (.inr (.inr (.inl (by omega))))]
   by_cases hA:k<1
   ·have tA:decide ((k:Int)<1)=true:=decide_eq_true (by omega)
    go_wp2
    go_ret2
    exact gives_nil HR.out (Below.refl _ _)
   ·have tA:decide ((k:Int)<1)=false:=decide_eq_false (by omega)
    by_cases hB:6<k
    ·have tB:decide (6<(k:Int))=true:=decide_eq_true (by omega)
     go_wp2
     go_ret2
     exact gives_nil HR.out (Below.refl _ _)
    ·have tB:decide (6<(k:Int))=false:=decide_eq_false (by omega)
     go_wp2
     go_ret2
     exact gives_nil HR.out (Below.refl _ _)
theorem esc_any (b off cap i:Nat)(s:ByteArray)(w:World)(hs:s.size≤1048576)(hi:i≤s.size)(hc:∀j,j<s.size→w.cell? ⟨b,off+j,none⟩=some (bts s j)):
 Calls Tryz.prog 95 #[.slice (some ⟨b,off,none⟩) s.size cap,.int .i64 i] w fun e w'=>Gives w w' e (esc s i).1 (esc s i).2:=by
 by_cases h:i+1<s.size∧(s.get! i).toNat=117∧(s.get! (i+1)).toNat=123
 ·exact esc_long b off cap i s w hs hc h.1 h.2.1 h.2.2
 ·exact esc_short b off cap i s w hs hi hc h
end Go.Proofs.YtbiakdjpeblclaaGreatDoor

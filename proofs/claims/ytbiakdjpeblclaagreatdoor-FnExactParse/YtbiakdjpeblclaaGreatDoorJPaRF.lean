/-
  The walk of the function that impl.scan answers: what it hands to the loop's body.
-/
import Derived.Test.YtbiakdjpeblclaaGreatDoorJPaIK
import Derived.RangeFuncNested
import Derived.RangeFuncBound
import Derived.RangeFuncCalls
import Derived.RangeFuncLeaves
import Derived.RangeFuncBox
import Derived.Shelf.Abstract
import Derived.Shelf.RegionOpen
import Derived.OwnWalkIn
import Derived.TacticsInMore
import Derived.LoopNIn
import Derived.LoopIn
import Derived.Maps.AppendAt
import Derived.Test.YtbiakdjpeblclaaGreatDoorJPaQPL
import Derived.Test.YtbiakdjpeblclaaGreatDoorJPaPSA
import Derived.WalkLawsBesides
import Derived.Test.YtbiakdjpeblclaaGreatDoorJPaMK
import Derived.Test.YtbiakdjpeblclaaGreatDoorJPaT
import Derived.Lib.ConvBytes
import Derived.Test.YtbiakdjpeblclaaGreatDoorJPaLX
namespace Go.Proofs.YtbiakdjpeblclaaGreatDoor
open Go.RowKit Go.Shelf
attribute [local go_sem] Oper.semAt_some
abbrev Tk :=Nat × Nat × Nat × Bool
def encT (x:Tk):Array Value:=#[.agg #[.int .i64 (x.1:Nat),.int .i64 (x.2.1:Nat),.int .i64 (x.2.2.1:Nat)],.bool x.2.2.2]
def yl (s:ByteArray):Nat→Nat→List Tk
 |0,_=>[]
 |f+1,p=>
  if p<s.size then
   (if 0<bl s p then yl s f (p+(bl s p).toNat)
   else if bl s p<0 then [(0,p,0,false)]
   else if (tok s p).2=0 then [(0,p,0,false)]
   else ((tok s p).1,p,(tok s p).2,true)::yl s f (p+(tok s p).2))
  else []
theorem yl_end {s:ByteArray}{f p:Nat}(h:¬p<s.size):yl s f p = []:=by cases f<;>simp[yl,h]
theorem yl_step {s:ByteArray}{f p:Nat}(hf:s.size<p+f)(h:p<s.size):∃g,f=g+1∧yl s f p =
 (if 0<bl s p then yl s g (p+(bl s p).toNat)
 else if bl s p<0 then [(0,p,0,false)]
 else if (tok s p).2=0 then [(0,p,0,false)]
 else ((tok s p).1,p,(tok s p).2,true)::yl s g (p+(tok s p).2)):=by
 cases f with
 |zero=>omega
 |succ f=>exact⟨f,rfl,by rw[yl,if_pos h]⟩
structure LibOk (w:World)(m:Int)(te1 te2:TypeId)(pe1 pe2:Value):Prop where
 tabs:Lib.Utf8Tabs 3 4 w
 max:w.cell? ⟨5,0,none⟩=some (.int .i64 m)
 syn:w.cell? ⟨7,0,none⟩=some (.iface te1 pe1)
 rng:w.cell? ⟨8,0,none⟩=some (.iface te2 pe2)
theorem LibOk.below {w w':World}{m:Int}{te1 te2:TypeId}{pe1 pe2:Value}(h:LibOk w m te1 te2 pe1 pe2)(hb:Below w.heap.size w w'):LibOk w' m te1 te2 pe1 pe2:=
 ⟨Utf8Tabs_below h.tabs hb,by rw[hb.cell (p:=⟨5,0,none⟩) (World.block_lt_of_cell? _ _ h.max)];exact h.max,by rw[hb.cell (p:=⟨7,0,none⟩) (World.block_lt_of_cell? _ _ h.syn)];exact h.syn,by rw[hb.cell (p:=⟨8,0,none⟩) (World.block_lt_of_cell? _ _ h.rng)];exact h.rng⟩
set_option maxRecDepth 1000000 in
set_option maxHeartbeats 2000000 in
theorem scan1_in (n:Nat)(hn:1≤n)(l Bn:Nat)(s:ByteArray)(hs:s.size≤5000)(hok:chk s=(0,0))(m:Int)(te1 te2:TypeId)(pe1 pe2:Value)(J Jx:List Tk→World→Prop)(W w0:World)(hJ:AbidesFrom W.heap.size J)
 (hY:∀pre x W1,J pre W1→pre.length<(yl s (s.size+1) 0).length→YieldAt Fence.wide (n - 1) Tryz.prog l (encT x) W1 fun e W'=>
   (e = .returned (.bool true)∧J (pre++[x]) W'∧KpB w0.heap.size Bn W1 W')∨(e = .returned (.bool false)∧Jx (pre++[x]) W'))
 (hBn:W.cell? ⟨Bn,0,none⟩=some (.string s)) (hlib:LibOk w0 m te1 te2 pe1 pe2) (hW:Below w0.heap.size w0 W) (h0:J [] W):
 CallsIn Fence.wide n Tryz.prog 75 #[.func (.yield l) #[] #[],.pointer (some ⟨Bn,0,none⟩)] W fun e W'=>(∃v,e = .returned v)∧
  ((∃ys,ys=yl s (s.size+1) 0∧J ys W')∨(∃pre,pre <+:yl s (s.size+1) 0∧Jx pre W')):=by
 obtain⟨A,hA⟩:∃A,yl s (s.size+1) 0=A:=⟨_,rfl⟩
 rw[hA]at hY ⊢
 have HA:=hide hA
 have HJ:=hide hJ
 have HY:=hide hY
 have HL:=hide hlib
 have HW:=hide hW
 have H0:=hide h0
 have HOK:Hid (bnd s 0):=⟨s.size+1,by omega,hok⟩
 clear hA hJ hY hlib hW h0 hok
 refine callsIn_of_wp Tryz.func75 rfl trivial ?_ rfl
 simp only[Tryz.ntmps75,List.size_toArray,List.length_cons,List.length_nil,Nat.reduceAdd,Nat.reduceSub,Array.replicate_succ,Array.replicate_zero,List.push_toArray,List.append_toArray,List.nil_append,List.cons_append]
 gi_wp2
 gi_loopw [3] (fun ix wr=>∃(p f:Nat) (pre:List Tk),ix = .int .i64 p∧p≤s.size∧s.size<p+f∧A=pre++yl s f p∧bnd s p∧J pre wr∧Below w0.heap.size w0 wr∧W.heap.size≤wr.heap.size∧wr.cell? ⟨Bn,0,none⟩=some (.string s)) (fun ix _=>s.size - (intOf ix).toNat)
 case atStart=>exact⟨0,s.size+1,[],rfl,Nat.zero_le _,by omega,by rw[HA.out];rfl,HOK.out,H0.out,HW.out,Nat.le_refl _,hBn⟩
 case round=>
  obtain⟨p,f,pre,rfl,hp,hf,hA,hb,hJs,hbl,hWs,hcs⟩:=hrel
  have HAA:=hide hA
  have HB:=hide hb
  have HJS:=hide hJs
  have HBL:=hide hbl
  clear hA hb hJs hbl
  by_cases hlt:p<s.size
  ·have d1:decide ((p:Int)<(s.size:Int))=true:=decide_eq_true (by omega)
   obtain⟨g,hfg,hst⟩:=yl_step hf hlt
   have hz:=size_ext s p hp
   have HPK:=fun w hT=>pieceKind_any (s.extract p s.size) w (by omega) hT
   have HPS:=fun w hT hM hE hR=>pieceSize_any (s.extract p s.size) w m te1 te2 pe1 pe2 (by omega) (by omega) (bnd_rest hp HB.out) hT hM hE hR
   obtain⟨k,hk⟩:∃k,pk (s.extract p s.size)=k:=⟨_,rfl⟩
   obtain⟨z,hzz⟩:∃z,psz k (s.extract p s.size)=z:=⟨_,rfl⟩
   have hsp:=piece_spec s p hlt k z hk hzz
   rw[hk]at HPK HPS
   rw[hzz]at HPS
   obtain⟨r,hr⟩:∃r,s.extract p s.size=r:=⟨_,rfl⟩
   have HPK':=hide HPK
   have HPS':=hide HPS
   have hfg':f≤g+1:=by omega
   have hk6:k≤6:=hsp.2.2.2
   have HSP:=hide hsp
   have HST:=hide hst
   rw[hr]at HPK' HPS'
   clear HPK HPS hk hzz hsp hst hfg hz
   have HSJ:Hid (∀w',Below wr.heap.size wr w'→J pre w'):=fun w' hb=>HJ.out pre wr w' none HJS.out (below_grown hb) (fun r e=>by cases e)
   by_cases h0:z=0
   ·have t1:((z:Int)==0)=true:=by rw[beq_iff_eq];omega
    have HE:Hid (A=pre++[(0,p,0,false)]):=by
     have hh:=HSP.out.1 h0
     show _=_
     rw[HAA.out,HST.out,if_neg hh.1]
     by_cases hn:bl s p<0
     ·rw[if_pos hn]
     ·rw[if_neg hn]
      rcases hh.2 with e|e
      ·exact absurd e hn
      ·rw[if_pos e]
    have hlen:pre.length<A.length:=by rw[HE.out];simp
    clear h0 HSP HST
    gi_wp2_with first|(refine⟨trivial,?_⟩;gi_at_call 76;refine (callsIn_wide.2 (HPK'.out _ (HL.out.below HBL.out).tabs)).mono ?_;rintro e w1 ⟨rfl,hb1⟩;have hc1:w1.cell? ⟨Bn,0,none⟩=some (.string s):=(by rw[hb1.cell (p:=⟨Bn,0,none⟩) (World.block_lt_of_cell? _ _ hcs)];exact hcs);have HB1:=hide hb1;have HL1:=hide ((HL.out.below HBL.out).below hb1);clear hb1 HPK')|(refine⟨trivial,?_⟩;gi_at_call 77;refine (callsIn_wide.2 (HPS'.out _ HL1.out.tabs HL1.out.max HL1.out.syn HL1.out.rng)).mono ?_;rintro e w2 ⟨rfl,hb2⟩;have HB2:=hide (HB1.out.trans (hb2.mono HB1.out.size));have hc2:w2.cell? ⟨Bn,0,none⟩=some (.string s):=(by rw[HB2.out.cell (p:=⟨Bn,0,none⟩) (World.block_lt_of_cell? _ _ hcs)];exact hcs);have HJ2:=hide (HSJ.out w2 HB2.out);have HBL2:Hid (Below w0.heap.size w0 w2):=HBL.out.trans (HB2.out.mono HBL.out.size);have hWs2:W.heap.size≤w2.heap.size:=Nat.le_trans hWs HB2.out.size;clear hb2 HPS';obtain⟨fn,tmps,assign,body,hy,hR⟩:=HY.out pre (0,p,0,false) w2 HJ2.out hlen;dsimp only[encT]at hy;rw[show ((0:Nat):Int)=0 from rfl]at hy)
    refine hR.mono ?_
    rintro e W3 (⟨rfl,hJ3,hk3⟩|⟨rfl,hJx3⟩)
    ·gi_wp2
     refine bodyPost_ret (results_none rfl _ _ _) rfl ?_
     exact⟨⟨_,rfl⟩,.inl ⟨_,HE.out.symm,hJ3⟩⟩
    ·gi_wp2
     refine bodyPost_ret (results_none rfl _ _ _) rfl ?_
     exact⟨⟨_,rfl⟩,.inr ⟨_,by rw[HE.out];exact List.prefix_refl _,hJx3⟩⟩
   ·have t1:((z:Int)==0)=false:=by rw[beq_eq_false_iff_ne];omega
    have hz1:1≤z:=by omega
    by_cases h3:k<3
    ·have t2:decide ((3:Int)≤(k:Int))=false:=decide_eq_false (by omega)
     have hbl:=HSP.out.2.1 h0 h3
     have hle:=bl_le s p hlt
     rw[hbl]at hle
     have hpz:p+z≤s.size:=by omega
     have HNB:Hid (bnd s (p+z)):=bnd_to HB.out (by omega) hpz (bl_low s p z hlt hbl (by omega))
     have HE:Hid (A=pre++yl s g (p+z)):=by
      show _=_
      rw[HAA.out,HST.out,if_pos (by rw[hbl];omega),hbl,Int.toNat_natCast]
     clear h0 h3 HSP HST hbl hle
     gi_wp2_with first|(refine⟨trivial,?_⟩;gi_at_call 76;refine (callsIn_wide.2 (HPK'.out _ (HL.out.below HBL.out).tabs)).mono ?_;rintro e w1 ⟨rfl,hb1⟩;have hc1:w1.cell? ⟨Bn,0,none⟩=some (.string s):=(by rw[hb1.cell (p:=⟨Bn,0,none⟩) (World.block_lt_of_cell? _ _ hcs)];exact hcs);have HB1:=hide hb1;have HL1:=hide ((HL.out.below HBL.out).below hb1);clear hb1 HPK')|(refine⟨trivial,?_⟩;gi_at_call 77;refine (callsIn_wide.2 (HPS'.out _ HL1.out.tabs HL1.out.max HL1.out.syn HL1.out.rng)).mono ?_;rintro e w2 ⟨rfl,hb2⟩;have HB2:=hide (HB1.out.trans (hb2.mono HB1.out.size));have hc2:w2.cell? ⟨Bn,0,none⟩=some (.string s):=(by rw[HB2.out.cell (p:=⟨Bn,0,none⟩) (World.block_lt_of_cell? _ _ hcs)];exact hcs);have HJ2:=hide (HSJ.out w2 HB2.out);have HBL2:Hid (Below w0.heap.size w0 w2):=HBL.out.trans (HB2.out.mono HBL.out.size);have hWs2:W.heap.size≤w2.heap.size:=Nat.le_trans hWs HB2.out.size;clear hb2 HPS')
     go_roundw
     case rel=>exact⟨p+z,g,pre,by go_num,hpz,by omega,HE.out,HNB.out,HJ2.out,HBL2.out,hWs2,hc2⟩
     case measure=>simp[intOf];omega
    ·have t2:decide ((3:Int)≤(k:Int))=true:=decide_eq_true (by omega)
     obtain⟨hbl,htk⟩:=HSP.out.2.2.1 h0 (by omega)
     have hle:=tok_le s p hlt
     have hlow:=tok_low s p hlt (by rw[htk];exact h0)
     rw[htk]at hle hlow
     simp only at hle hlow
     have HNB:Hid (bnd s (p+z)):=bnd_to HB.out (by omega) hle (.inr hlow)
     have HTK:=hide (fun w=>tokenKind_any k (s.extract p (p+z)) w hk6)
     have HE:Hid (A=(pre++[(tkd k (s.extract p (p+z)),p,z,true)])++yl s g (p+z)):=by
      show _=_
      rw[HAA.out,HST.out,if_neg (by rw[hbl];omega),if_neg (by rw[hbl];omega),htk,if_neg h0]
      simp
     obtain⟨x,hx⟩:∃x,s.extract p (p+z)=x:=⟨_,rfl⟩
     rw[hx]at HTK HE
     obtain⟨d,hd⟩:∃d,tkd k x=d:=⟨_,rfl⟩
     rw[hd]at HTK HE
     have hlen:pre.length<A.length:=by rw[HE.out];simp
     clear h0 h3 HSP HST hbl hlow htk hd
     gi_wp2_with first|(refine⟨trivial,?_⟩;gi_at_call 76;refine (callsIn_wide.2 (HPK'.out _ (HL.out.below HBL.out).tabs)).mono ?_;rintro e w1 ⟨rfl,hb1⟩;have hc1:w1.cell? ⟨Bn,0,none⟩=some (.string s):=(by rw[hb1.cell (p:=⟨Bn,0,none⟩) (World.block_lt_of_cell? _ _ hcs)];exact hcs);have HB1:=hide hb1;have HL1:=hide ((HL.out.below HBL.out).below hb1);clear hb1 HPK')|(refine⟨trivial,?_⟩;gi_at_call 77;refine (callsIn_wide.2 (HPS'.out _ HL1.out.tabs HL1.out.max HL1.out.syn HL1.out.rng)).mono ?_;rintro e w2 ⟨rfl,hb2⟩;have HB2:=hide (HB1.out.trans (hb2.mono HB1.out.size));have hc2:w2.cell? ⟨Bn,0,none⟩=some (.string s):=(by rw[HB2.out.cell (p:=⟨Bn,0,none⟩) (World.block_lt_of_cell? _ _ hcs)];exact hcs);have HJ2:=hide (HSJ.out w2 HB2.out);have HBL2:Hid (Below w0.heap.size w0 w2):=HBL.out.trans (HB2.out.mono HBL.out.size);have hWs2:W.heap.size≤w2.heap.size:=Nat.le_trans hWs HB2.out.size;clear hb2 HPS')|(refine⟨trivial,?_⟩;gi_at_call 78;refine (callsIn_wide.2 (HTK.out _)).mono ?_;rintro e w3 ⟨rfl,hw3⟩;subst hw3;obtain⟨fn,tmps,assign,body,hy,hR⟩:=HY.out pre (d,p,z,true) (w3.alloc (.cells #[.int .i64 d,.int .i64 p,.int .i64 z] 73)) (HJ.out pre w3 _ none HJ2.out (World.grownBy_alloc w3 _ none) (fun r e=>by cases e)) hlen;dsimp only[encT]at hy)
     refine hR.mono ?_
     rintro e W3 (⟨rfl,hJ3,hk3⟩|⟨rfl,hJx3⟩)
     ·have hc3:W3.cell? ⟨Bn,0,none⟩=some (.string s):=hk3.2.trans (by rw[((Below.refl w3.heap.size w3).alloc (Nat.le_refl _) _).cell (p:=⟨Bn,0,none⟩) (World.block_lt_of_cell? _ _ hc2)];exact hc2)
      have HB3:Hid (Below w0.heap.size w0 W3):=(HBL2.out.alloc HBL2.out.size _).trans hk3.1
      have hWs3:W.heap.size≤W3.heap.size:=Nat.le_trans hWs2 (Nat.le_trans (by simp) hk3.1.size)
      have HJ3:=hide hJ3
      clear hk3 hJ3
      gi_wp2
      go_roundw
      case rel=>exact⟨p+z,g,pre++[(d,p,z,true)],by go_num,hle,by omega,HE.out,HNB.out,HJ3.out,HB3.out,hWs3,hc3⟩
      case measure=>simp[intOf];omega
     ·gi_wp2
      refine bodyPost_ret (results_none rfl _ _ _) rfl ?_
      exact⟨⟨_,rfl⟩,.inr ⟨_,⟨_,HE.out.symm⟩,hJx3⟩⟩
  ·have d1:decide ((p:Int)<(s.size:Int))=false:=decide_eq_false (by omega)
   have HE:Hid (A=pre):=by show _=_;rw[HAA.out,yl_end hlt,List.append_nil]
   gi_wp2
   go_end0
   exact⟨⟨_,rfl⟩,.inl ⟨_,HE.out.symm,HJS.out⟩⟩
end Go.Proofs.YtbiakdjpeblclaaGreatDoor
namespace Go.Proofs.YtbiakdjpeblclaaGreatDoor
open Go.RowKit
structure TabQ (w:World):Prop where
 ops:∀n,n<14→w.cell? ⟨9,n*2,none⟩=some (.string (sgW.getD n ⟨#[]⟩))∧w.cell? ⟨9,n*2+1,none⟩=some (.int .i64 ((sgB.getD n 0:Nat) - 1:Int))
 stw:∀n,n<16→w.cell? ⟨1,n,none⟩=some (.string (sWd.getD n ⟨#[]⟩))
 wyw:∀n,n<4→w.cell? ⟨6,n,none⟩=some (.string (wyN.getD n ⟨#[]⟩))
 tyw:w.cell? ⟨2,0,none⟩=some (.string (⟨#[105,110,116]⟩:ByteArray))∧w.cell? ⟨2,1,none⟩=some (.string (⟨#[116,101,120,116]⟩:ByteArray))
 lib:∃m te1 te2 pe1 pe2,LibOk w m te1 te2 pe1 pe2
theorem TabQ.below {w w':World}(h:TabQ w)(hb:Below w.heap.size w w'):TabQ w':=
 ⟨fun n hn=>⟨cell_kept (h.ops n hn).1 hb,cell_kept (h.ops n hn).2 hb⟩,fun n hn=>cell_kept (h.stw n hn) hb,fun n hn=>cell_kept (h.wyw n hn) hb,⟨cell_kept h.tyw.1 hb,cell_kept h.tyw.2 hb⟩,by
  obtain⟨m,t1,t2,p1,p2,hl⟩:=h.lib
  exact⟨m,t1,t2,p1,p2,hl.below hb⟩⟩
def EnvQ (P:Nat)(w:World):Prop:=∃w0:World,w0.heap.size=P∧Below P w0 w∧TabQ w0
theorem EnvQ.gw {P:Nat}{w w':World}(h:EnvQ P w)(hg:Gw (· = P) w w'):EnvQ P w':=by
 obtain⟨w0,h1,h2,h3⟩:=h
 exact⟨w0,h1,hg.below h2 (by have:=h2.size;omega) (fun k hk q=>by omega),h3⟩
theorem EnvQ.tab {P:Nat}{w:World}(h:EnvQ P w):TabQ w:=by
 obtain⟨w0,h1,h2,h3⟩:=h
 exact h3.below (by rw[h1];exact h2)
structure QsW (w:World)(c:PsC)(e:PsE)(n:Nat):Prop where
 blk:Blk w c.P 61 #[.string e.s,.slice c.ta e.T.length c.tc,.int .i64 (n:Nat)]
 ta:0<e.T.length→c.ta=some ⟨c.tb,0,none⟩∧c.tb<c.P
 tok:TCells w c.tb e.T
 tin:∀i,i<e.T.length→(e.T.getD i (0,0,0)).2.1+(e.T.getD i (0,0,0)).2.2≤e.s.size∧(e.T.getD i (0,0,0)).1≤5∧0<(e.T.getD i (0,0,0)).2.2
 tl:e.T.length≤5000
 szl:e.s.size≤5000
 at_:n≤e.T.length+1
 env:EnvQ c.P w
def QdQ (c:PsC)(e:PsE)(n:Nat)(w w':World):Prop:=QsW w' c e n∧Gw (· = c.P) w w'
theorem QsW.go {w w':World}{c:PsC}{e:PsE}{n n':Nat}(h:QsW w c e n)(hg:Gw (· = c.P) w w')(hb:Blk w' c.P 61 #[.string e.s,.slice c.ta e.T.length c.tc,.int .i64 (n':Nat)])(h1:n'≤e.T.length+1):QsW w' c e n':=
 ⟨hb,h.ta,fun i hi=>by
  have n:¬c.tb=c.P:=by have:=(h.ta (by omega)).2;omega
  exact⟨hg.cell (h.tok i hi).1 n,hg.cell (h.tok i hi).2.1 n,hg.cell (h.tok i hi).2.2 n⟩,h.tin,h.tl,h.szl,h1,h.env.gw hg⟩
theorem QsW.below {w w':World}{c:PsC}{e:PsE}{n:Nat}(h:QsW w c e n)(hb:Below w.heap.size w w'):QsW w' c e n:=
 h.go (Gw.of_below hb) ((hb.block c.P h.blk.lt).trans h.blk) h.at_
theorem QsW.drew {w:World}{c:PsC}{e:PsE}{n:Nat}(h:QsW w c e n)(m:Nat):QsW (w.drewN m) c e n:=h.below (below_drewN (Below.refl _ _) m)
theorem QsW.cells {w:World}{c:PsC}{e:PsE}{n:Nat}(h:QsW w c e n):w.cell? ⟨c.P,0,none⟩=some (.string e.s)∧w.cell? ⟨c.P,1,none⟩=some (.slice c.ta e.T.length c.tc)∧w.cell? ⟨c.P,2,none⟩=some (.int .i64 (n:Nat)):=
 ⟨h.blk.cell 0,h.blk.cell 1,h.blk.cell 2⟩
theorem QsW.fz {w:World}{c:PsC}{e:PsE}{n:Nat}(h:QsW w c e n)(k:Nat):w.frozen? ⟨c.P,k,none⟩=false:=by
 have:=h.blk
 unfold Blk at this
 simp[World.frozen?,this]
theorem QdQ.trans {c:PsC}{e:PsE}{n m:Nat}{w w1 w2:World}(h:QdQ c e n w w1)(k:QdQ c e m w1 w2):QdQ c e m w w2:=⟨k.1,h.2.trans k.2 (fun _ _ q=>q)⟩
theorem QdQ.of_below {c:PsC}{e:PsE}{n:Nat}{w w':World}(h:QsW w c e n)(hb:Below w.heap.size w w'):QdQ c e n w w':=⟨h.below hb,Gw.of_below hb⟩
theorem QsW.onQ {w w':World}{c:PsC}{e:PsE}{n:Nat}(h:QsW w c e n)(hb:Below w.heap.size w w')(hn:n≤e.T.length):QdQ c e (n+1) w (w'.setCell ⟨c.P,2,none⟩ (.int .i64 ((n:Nat)+1:Int))):=by
 have h1:=h.below hb
 have hg:=Gw.set w' c.P 2 (.int .i64 ((n:Nat)+1:Int))
 exact⟨h1.go hg (by rw[show ((n+1:Nat):Int)=(n:Int)+1 by omega];exact h1.blk.set 2 (.int .i64 ((n:Nat)+1:Int))) (by omega),(Gw.of_below hb).trans hg (fun _ _ q=>q)⟩
def PsE.knd (e:PsE)(n:Nat):Nat:=if n<e.T.length then (e.T.getD n (0,0,0)).1 else 0
def Flt (b:Int):Ending:=.panicked [{ v:=.iface 54 (.agg #[.int .i64 b]),recovered:=false }]
set_option maxHeartbeats 1000000 in
set_option maxRecDepth 1000000 in
theorem qplace_any {w:World}{c:PsC}{e:PsE}{n:Nat}(h:QsW w c e n):
 Calls Tryz.prog 85 #[.pointer (some ⟨c.P,0,none⟩)] w fun r w'=>r = .returned (.int .i64 (e.place ⟨n, -1,false⟩:Nat))∧Below w.heap.size w w':=by
 obtain⟨g0,g1,g2⟩:=h.cells
 have htl:=h.tl
 have hat:=h.at_
 have hsz:=h.szl
 by_cases hn:n<e.T.length
 ·have d0:decide (e.T.length≤n)=false:=decide_eq_false (by omega)
  obtain⟨k0,k1,k2⟩:=h.tok n hn
  have hin:=h.tin n hn
  have HX:Hid (e.place ⟨n, -1,false⟩=(e.T.getD n (0,0,0)).2.1):=by show _=_;unfold PsE.place;rw[if_pos hn];rfl
  obtain⟨hta,htb⟩:=h.ta (by omega)
  rw[hta]at g1
  obtain⟨A,hA⟩:∃A,(e.T.getD n (0,0,0)).2.1=A:=⟨_,rfl⟩
  rw[hA]at HX k1
  have HX':=HX
  clear hA HX hin k0 k2 hsz
  go_enter Tryz.func85,Tryz.ntmps85
  go_wp2_with fail
  go_quiet (fail)
  go_wp2_with fail
  go_quiet (fail)
  go_wp2
  go_ret
  exact⟨by rw[HX'.out];rfl,by first|exact Below.refl _ _|exact below_drewN (Below.refl _ _) _|exact below_drewN (below_drewN (Below.refl _ _) _) _⟩
 ·have d0:decide (e.T.length≤n)=true:=decide_eq_true (by omega)
  have HX:Hid (e.place ⟨n, -1,false⟩=e.s.size):=by show _=_;unfold PsE.place;rw[if_neg hn]
  clear hn
  go_enter Tryz.func85,Tryz.ntmps85
  go_wp2_with fail
  go_quiet (fail)
  go_wp2
  go_ret
  exact⟨by rw[HX.out];rfl,by first|exact Below.refl _ _|exact below_drewN (Below.refl _ _) _|exact below_drewN (below_drewN (Below.refl _ _) _) _⟩
set_option maxHeartbeats 1000000 in
set_option maxRecDepth 1000000 in
theorem l2sign_any (k:Nat)(hk:k<14)(w:World):
 Calls Tryz.prog 67 #[.int .i64 (k:Nat)] w fun r w'=>r = .returned (Value.string (sgW.getD k ⟨#[]⟩))∧Below w.heap.size w w':=by
 have hc:(w.alloc (.cells #[.string ({ data:=#[124,124] }:ByteArray),.string ({ data:=#[38,38] }:ByteArray),.string ({ data:=#[61,61] }:ByteArray),.string ({ data:=#[33,61] }:ByteArray),.string ({ data:=#[60] }:ByteArray),.string ({ data:=#[60,61] }:ByteArray),.string ({ data:=#[62] }:ByteArray),.string ({ data:=#[62,61] }:ByteArray),.string ({ data:=#[38] }:ByteArray),.string ({ data:=#[43] }:ByteArray),.string ({ data:=#[45] }:ByteArray),.string ({ data:=#[42] }:ByteArray),.string ({ data:=#[47] }:ByteArray),.string ({ data:=#[37] }:ByteArray)] 9)).cell? ⟨w.heap.size,k,none⟩=some (Value.string (sgW.getD k ⟨#[]⟩)):=by
  rw[(Blk.new w (9) #[.string ({ data:=#[124,124] }:ByteArray),.string ({ data:=#[38,38] }:ByteArray),.string ({ data:=#[61,61] }:ByteArray),.string ({ data:=#[33,61] }:ByteArray),.string ({ data:=#[60] }:ByteArray),.string ({ data:=#[60,61] }:ByteArray),.string ({ data:=#[62] }:ByteArray),.string ({ data:=#[62,61] }:ByteArray),.string ({ data:=#[38] }:ByteArray),.string ({ data:=#[43] }:ByteArray),.string ({ data:=#[45] }:ByteArray),.string ({ data:=#[42] }:ByteArray),.string ({ data:=#[47] }:ByteArray),.string ({ data:=#[37] }:ByteArray)]).cell k]
  have q:k=0∨k=1∨k=2∨k=3∨k=4∨k=5∨k=6∨k=7∨k=8∨k=9∨k=10∨k=11∨k=12∨k=13:=by omega
  rcases q with rfl|rfl|rfl|rfl|rfl|rfl|rfl|rfl|rfl|rfl|rfl|rfl|rfl|rfl<;>rfl
 have hb:Below w.heap.size w (w.alloc (.cells #[.string ({ data:=#[124,124] }:ByteArray),.string ({ data:=#[38,38] }:ByteArray),.string ({ data:=#[61,61] }:ByteArray),.string ({ data:=#[33,61] }:ByteArray),.string ({ data:=#[60] }:ByteArray),.string ({ data:=#[60,61] }:ByteArray),.string ({ data:=#[62] }:ByteArray),.string ({ data:=#[62,61] }:ByteArray),.string ({ data:=#[38] }:ByteArray),.string ({ data:=#[43] }:ByteArray),.string ({ data:=#[45] }:ByteArray),.string ({ data:=#[42] }:ByteArray),.string ({ data:=#[47] }:ByteArray),.string ({ data:=#[37] }:ByteArray)] 9)):=(Below.refl _ _).alloc (Nat.le_refl _) _
 obtain⟨V,hV⟩:∃V,Value.string (sgW.getD k ⟨#[]⟩)=V:=⟨_,rfl⟩
 rw[hV]at hc ⊢
 have hki:(k:Int)<14:=by omega
 have HB:=hide hb
 clear hV hb
 go_enter Tryz.func67,Tryz.ntmps67
 go_wp2
 go_ret
 exact⟨rfl,HB.out⟩
set_option maxHeartbeats 1000000 in
set_option maxRecDepth 1000000 in
theorem l2bind_any (k:Nat)(hk:k<14)(w:World):
 Calls Tryz.prog 68 #[.int .i64 (k:Nat)] w fun r w'=>r = .returned (Value.int .i64 ((sgB.getD k 0:Nat):Int))∧Below w.heap.size w w':=by
 have hc:(w.alloc (.cells #[.int .i64 1,.int .i64 2,.int .i64 3,.int .i64 3,.int .i64 3,.int .i64 3,.int .i64 3,.int .i64 3,.int .i64 4,.int .i64 5,.int .i64 5,.int .i64 6,.int .i64 6,.int .i64 6] 3)).cell? ⟨w.heap.size,k,none⟩=some (Value.int .i64 ((sgB.getD k 0:Nat):Int)):=by
  rw[(Blk.new w (3) #[.int .i64 1,.int .i64 2,.int .i64 3,.int .i64 3,.int .i64 3,.int .i64 3,.int .i64 3,.int .i64 3,.int .i64 4,.int .i64 5,.int .i64 5,.int .i64 6,.int .i64 6,.int .i64 6]).cell k]
  have q:k=0∨k=1∨k=2∨k=3∨k=4∨k=5∨k=6∨k=7∨k=8∨k=9∨k=10∨k=11∨k=12∨k=13:=by omega
  rcases q with rfl|rfl|rfl|rfl|rfl|rfl|rfl|rfl|rfl|rfl|rfl|rfl|rfl|rfl<;>rfl
 have hb:Below w.heap.size w (w.alloc (.cells #[.int .i64 1,.int .i64 2,.int .i64 3,.int .i64 3,.int .i64 3,.int .i64 3,.int .i64 3,.int .i64 3,.int .i64 4,.int .i64 5,.int .i64 5,.int .i64 6,.int .i64 6,.int .i64 6] 3)):=(Below.refl _ _).alloc (Nat.le_refl _) _
 obtain⟨V,hV⟩:∃V,Value.int .i64 ((sgB.getD k 0:Nat):Int)=V:=⟨_,rfl⟩
 rw[hV]at hc ⊢
 have hki:(k:Int)<14:=by omega
 have HB:=hide hb
 clear hV hb
 go_enter Tryz.func68,Tryz.ntmps68
 go_wp2
 go_ret
 exact⟨rfl,HB.out⟩
set_option maxHeartbeats 1000000 in
set_option maxRecDepth 1000000 in
theorem l2way_any (k:Nat)(hk:k<4)(w:World):
 Calls Tryz.prog 69 #[.int .i64 (k:Nat)] w fun r w'=>r = .returned (Value.string (wyN.getD k ⟨#[]⟩))∧Below w.heap.size w w':=by
 have hc:(w.alloc (.cells #[.string ({ data:=#[110,111,114,116,104] }:ByteArray),.string ({ data:=#[101,97,115,116] }:ByteArray),.string ({ data:=#[115,111,117,116,104] }:ByteArray),.string ({ data:=#[119,101,115,116] }:ByteArray)] 9)).cell? ⟨w.heap.size,k,none⟩=some (Value.string (wyN.getD k ⟨#[]⟩)):=by
  rw[(Blk.new w (9) #[.string ({ data:=#[110,111,114,116,104] }:ByteArray),.string ({ data:=#[101,97,115,116] }:ByteArray),.string ({ data:=#[115,111,117,116,104] }:ByteArray),.string ({ data:=#[119,101,115,116] }:ByteArray)]).cell k]
  have q:k=0∨k=1∨k=2∨k=3:=by omega
  rcases q with rfl|rfl|rfl|rfl<;>rfl
 have hb:Below w.heap.size w (w.alloc (.cells #[.string ({ data:=#[110,111,114,116,104] }:ByteArray),.string ({ data:=#[101,97,115,116] }:ByteArray),.string ({ data:=#[115,111,117,116,104] }:ByteArray),.string ({ data:=#[119,101,115,116] }:ByteArray)] 9)):=(Below.refl _ _).alloc (Nat.le_refl _) _
 obtain⟨V,hV⟩:∃V,Value.string (wyN.getD k ⟨#[]⟩)=V:=⟨_,rfl⟩
 rw[hV]at hc ⊢
 have hki:(k:Int)<4:=by omega
 have HB:=hide hb
 clear hV hb
 go_enter Tryz.func69,Tryz.ntmps69
 go_wp2
 go_ret
 exact⟨rfl,HB.out⟩
theorem conv_bg (W:World)(s:ByteArray):∃gc W',(convert 9 22 (.string s)).run Tryz.prog W = .ok (.slice (some ⟨W.heap.size,0,none⟩) s.size gc) W'∧Below W.heap.size W W'∧BG W' (fun g=>W.heap.size≤g) (.slice (some ⟨W.heap.size,0,none⟩) s.size gc) s∧(∀j,j<s.size→W'.cell? ⟨W.heap.size,j,none⟩=some (bts s j))∧W'.heap.size=W.heap.size+1:=by
 have hc:∀j,j<s.size→(Lib.bytesWorld W 5 s).cell? ⟨W.heap.size,j,none⟩=some (bts s j):=fun j hj=>by
  rw[Lib.bytesWorld_cell W 5 s j hj];unfold bts;rw[Utf8W.get!_of_lt s j hj];have hj':j<s.data.toList.length:=by rw[Array.length_toList];exact hj
  rw[List.getD_eq_getElem?_getD,List.getElem?_eq_getElem hj',Option.getD_some,Array.getElem_toList];rfl
 refine⟨grownCap W s.size 0 5,Lib.bytesWorld W 5 s,Lib.run_convert_string_bytes (P:=Tryz.prog) W 9 22 5 s Tryz.underlying9 Tryz.underlying22 Tryz.underlying5,⟨rfl,rfl,rfl,by rw[Lib.bytesWorld_size];omega,fun j hj=>Lib.bytesWorld_at_old W 5 s j hj⟩,⟨_,W.heap.size,_,rfl,fun _=>⟨rfl,Nat.le_refl _⟩,fun _ j u hj=>?_⟩,hc,by rw[Lib.bytesWorld_size]⟩
 have hl:j<s.size:=by
  rcases Nat.lt_or_ge j s.size with h|h
  ·exact h
  ·rw[List.getElem?_eq_none (by rw[byv_len];exact h)]at hj;cases hj
 rw[byv_at s j hl]at hj
 rw[hc j hl];exact hj
set_option maxHeartbeats 1000000 in
set_option maxRecDepth 1000000 in
theorem l2ident_any {w:World}{c:PsC}{e:PsE}{p:Ps}(h:PsW w c e p):
 Calls Tryz.prog 36 #[.pointer (some ⟨c.P,0,none⟩)] w fun r w'=>(∃v,r = .returned v∧BG w' (fun g=>w.heap.size≤g) v (e.ident p).1∧(e.ident p).1.size≤5000)∧RdQ c e (e.ident p).2 w w':=by
 have HK:=hide (l2kind_any h)
 have hk5:=PsE.kind_le h
 have hPl:=h.blk.lt
 by_cases c1:e.kind p=1
 ·have hns:=PsE.now_size h
  have hat:=h.at_
  have htl:=h.tl
  have hal:p.at_≤5000:=by omega
  have hlt:=(kind_pos (e:=e) (p:=p) (by omega)).2
  rw[c1]at HK
  have HE:Hid (e.ident p=(e.now p,{ p with at_:=p.at_+1,long:=p.long||decide (30<(e.now p).size) })):=by show _=_;unfold PsE.ident;rw[if_pos c1]
  have HNW:=hide (fun W (hW:Below w.heap.size w W)=>l2now_any (h.below hW))
  have HPS:=hide (fun W (hW:Below w.heap.size w W)=>h.below hW)
  obtain⟨R,hR⟩:∃R,e.now p=R:=⟨_,rfl⟩
  rw[hR]at HE hns
  simp only[hR]at HNW
  clear h hR c1 hat htl
  go_enter Tryz.func36,Tryz.ntmps36
  go_wp2_with fail
  refine HK.out.mono ?_
  rintro r w' ⟨rfl,m0,rfl⟩
  go_wp2_with fail
  refine (HNW.out _ (below_drewN (Below.refl _ _) m0)).mono ?_
  rintro r w1 ⟨rfl,hb⟩
  have hB:=(below_drewN (Below.refl w.heap.size w) m0).trans hb
  obtain⟨gc,W',hcv,hb2,hbg,_,hsz⟩:=conv_bg w1 R
  have hBW:=hB.trans (hb2.mono hB.size)
  have hps:=HPS.out _ hBW
  obtain⟨g0,g1,g2,g3,g4⟩:=hps.cells
  have f2:=hps.fz 2
  have f4:=hps.fz 4
  have hq:RdQ c e { p with at_:=p.at_+1 } w (W'.setCell ⟨c.P,2,none⟩ (.int .i64 ((p.at_:Nat)+1:Int))):=by
   have h1:=hps.one (p':={ p with at_:=p.at_+1 }) (k:=2) (v:=.int .i64 ((p.at_:Nat)+1:Int)) rfl (by show p.at_+1≤_;omega) hps.bad
   exact⟨h1.1,Gw.trans (Gw.of_below hBW) h1.2 (fun _ _ q=>q)⟩
  obtain⟨X,hX⟩:∃X,W'.setCell ⟨c.P,2,none⟩ (.int .i64 ((p.at_:Nat)+1:Int))=X:=⟨_,rfl⟩
  have hXg:Gw (· = c.P) W' X:=by rw[← hX];exact Gw.set _ _ _ _
  rw[hX]at hq
  have x4:=hq.1.cells.2.2.2.2
  have xf4:=hq.1.fz 4
  have HBG:Hid (BG X (fun g=>w.heap.size≤g) (.slice (some ⟨w1.heap.size,0,none⟩) R.size gc) R):=BG.gw (hbg.mono (fun g hg _=>Nat.le_trans hB.size hg)) hXg (fun k hk=>by rw[hk];omega)
  have HQ:Hid (RdQ c e { p with at_:=p.at_+1,long:=p.long||decide (30<R.size) } w (X.setCell ⟨c.P,4,none⟩ (.bool (p.long||decide (30<R.size))))∧Gw (· = c.P) X (X.setCell ⟨c.P,4,none⟩ (.bool (p.long||decide (30<R.size))))):=by
   have h1:=hq.1.one (p':={ p with at_:=p.at_+1,long:=p.long||decide (30<R.size) }) (k:=4) (v:=.bool (p.long||decide (30<R.size))) rfl hq.1.at_ hq.1.bad
   exact⟨hq.trans h1,h1.2⟩
  clear hb hb2 hbg hBW hps g0 g1 g3 hB hq hXg HPS HNW hsz
  have hdd:decide ((30:Int)<(R.size:Int))=decide (30<R.size):=by
   by_cases q:30<R.size
   ·rw[decide_eq_true q,decide_eq_true (by omega)]
   ·rw[decide_eq_false q,decide_eq_false (by omega)]
  obtain⟨D,hD⟩:∃D,decide (30<R.size)=D:=⟨_,rfl⟩
  rw[hD]at hdd HQ HE
  obtain⟨L,hL⟩:∃L,p.long=L:=⟨_,rfl⟩
  rw[hL]at x4 HQ HE g4
  clear hD hL
  cases L<;>go_wp2<;>go_ret<;>rw[HE.out]<;>exact⟨⟨_,rfl,HBG.out.gw HQ.out.2 (fun k hk=>by rw[hk];omega),hns⟩,HQ.out.1⟩
 ·have t1:(((e.kind p:Nat):Int) != 1)=true:=by rw[bne_iff_ne];omega
  have HE:Hid (e.ident p=(⟨#[]⟩,e.wrong p)):=by show _=_;unfold PsE.ident;rw[if_neg c1]
  have HPS:=hide (fun m=>l2wrong_any (h.drew m))
  obtain⟨K,hK⟩:∃K,e.kind p=K:=⟨_,rfl⟩
  rw[hK]at HK t1
  clear h hK c1 hk5
  go_enter Tryz.func36,Tryz.ntmps36
  go_wp2_with fail
  refine HK.out.mono ?_
  rintro r w' ⟨rfl,m0,rfl⟩
  go_wp2_with fail
  refine (HPS.out m0).mono ?_
  rintro r w1 ⟨rfl,hq⟩
  have HQ:Hid (RdQ c e (e.wrong p) w w1):=⟨hq.1,Gw.trans (Gw.of_below (below_drewN (Below.refl _ _) m0)) hq.2 (fun _ _ q=>q)⟩
  clear hq
  go_wp2
  go_ret
  rw[HE.out]
  exact⟨⟨_,rfl,RwG.nil _ _ _ _,Nat.zero_le _⟩,HQ.out⟩
def Nf (w:World)(v:Value):Prop:=∀(g n c:Nat),v = .slice (some ⟨g,0,none⟩) n c→∀j,j<n→w.frozen? ⟨g,j,none⟩=false
structure RGf (w:World)(G:Nat→Prop)(v:Value)(n:Nat)(xs:List Value):Prop where
 row:RwG w G v n xs
 len:xs.length=n
 nf:Nf w v
theorem RGf.gw {P:Nat→Prop}{w w':World}{G:Nat→Prop}{n:Nat}{v:Value}{xs:List Value}(h:RGf w G v n xs)(hg:Gw P w w')(hp:∀k,P k→¬G k):RGf w' G v n xs:=by
 refine⟨h.row.gw hg hp,h.len,fun g n' c e j hj=>?_⟩
 obtain⟨a,g',c',h1,h2,h3⟩:=h.row
 have hnf:=h.nf g n' c e j hj
 rw[h1]at e
 injection e with e1 e2 e3
 have hn:0<n:=by omega
 obtain⟨k1,k2⟩:=h2 hn
 rw[k1]at e1
 injection e1 with e1
 injection e1 with e1
 subst e1
 have hl:=h.len
 have hlt:g'<w.heap.size:=World.block_lt_of_cell? _ _ (h3 hn 0 _ (List.getElem?_eq_getElem (by omega)))
 rw[World.frozen?_of_block (w:=w) (hg.block g' hlt (fun q=>hp _ q k2))]
 exact hnf
theorem RGf.mono {w:World}{G G':Nat→Prop}{n:Nat}{v:Value}{xs:List Value}(h:RGf w G v n xs)(hG:∀g,G g→g<w.heap.size→G' g):RGf w G' v n xs:=⟨h.row.mono (ne_of_len (by rw[h.len];exact Nat.le_refl _)) hG,h.len,h.nf⟩
theorem RGf.nil (w:World)(G:Nat→Prop)(c:Nat):RGf w G (.slice none 0 c) 0 []:=⟨RwG.nil _ _ _ _,rfl,fun g n c e=>by injection e with e;cases e⟩
theorem RGf.of_own {w:World}{G:Nat→Prop}{B e n:Nat}{v:Value}{xs:List Value}(h:w.ownsRow B e 1 v n xs)(hb:∀g,v.ownBlock=some g→G g):RGf w G v n xs:=by
 obtain⟨a,g,c,h1,h2,h3⟩:=RwG.of_own (G:=fun _=>True) h (fun _ _=>trivial)
 refine⟨⟨a,g,c,h1,fun hn=>⟨(h2 hn).1,hb g (by rw[h1,(h2 hn).1];rfl)⟩,h3⟩,by have:=h.1;omega,fun g' n' c' hv j hj=>?_⟩
 rcases h.2 with⟨k1,_⟩|⟨g2,c2,cur,k1,_,k2,_⟩
 ·rw[k1]at hv;injection hv with hv;cases hv
 ·rw[k1]at hv
  injection hv with hv
  injection hv with hv
  injection hv with hv
  subst hv
  simp[World.frozen?,k2]
def BGf (w:World)(G:Nat→Prop)(v:Value)(s:ByteArray):Prop:=RGf w G v s.size (byv s)
theorem BGf.bg {w:World}{G:Nat→Prop}{v:Value}{s:ByteArray}(h:BGf w G v s):BG w G v s:=h.row
theorem BGf.gw {P:Nat→Prop}{w w':World}{G:Nat→Prop}{v:Value}{s:ByteArray}(h:BGf w G v s)(hg:Gw P w w')(hp:∀k,P k→¬G k):BGf w' G v s:=RGf.gw h hg hp
theorem BGf.mono {w:World}{G G':Nat→Prop}{v:Value}{s:ByteArray}(h:BGf w G v s)(hG:∀g,G g→g<w.heap.size→G' g):BGf w G' v s:=RGf.mono h hG
theorem BGf.slc {w:World}{G:Nat→Prop}{v:Value}{s:ByteArray}(h:BGf w G v s):∃a c,v = .slice a s.size c:=h.bg.slc
theorem conv_bf (W:World)(s:ByteArray):∃gc W',(convert 9 22 (.string s)).run Tryz.prog W = .ok (.slice (some ⟨W.heap.size,0,none⟩) s.size gc) W'∧Below W.heap.size W W'∧BGf W' (fun g=>W.heap.size≤g) (.slice (some ⟨W.heap.size,0,none⟩) s.size gc) s:=by
 have hc:∀j,j<s.size→(Lib.bytesWorld W 5 s).cell? ⟨W.heap.size,j,none⟩=some (bts s j):=fun j hj=>by
  rw[Lib.bytesWorld_cell W 5 s j hj];unfold bts;rw[Utf8W.get!_of_lt s j hj];have hj':j<s.data.toList.length:=by rw[Array.length_toList];exact hj
  rw[List.getD_eq_getElem?_getD,List.getElem?_eq_getElem hj',Option.getD_some,Array.getElem_toList];rfl
 refine⟨grownCap W s.size 0 5,Lib.bytesWorld W 5 s,Lib.run_convert_string_bytes (P:=Tryz.prog) W 9 22 5 s Tryz.underlying9 Tryz.underlying22 Tryz.underlying5,⟨rfl,rfl,rfl,by rw[Lib.bytesWorld_size];omega,fun j hj=>Lib.bytesWorld_at_old W 5 s j hj⟩,⟨⟨_,W.heap.size,_,rfl,fun _=>⟨rfl,Nat.le_refl _⟩,fun _ j u hj=>?_⟩,byv_len s,fun g n c e j hj=>?_⟩⟩
 ·have hl:j<s.size:=by
   rcases Nat.lt_or_ge j s.size with h|h
   ·exact h
   ·rw[List.getElem?_eq_none (by rw[byv_len];exact h)]at hj;cases hj
  rw[byv_at s j hl]at hj
  rw[hc j hl];exact hj
 ·injection e with e1 e2 e3
  injection e1 with e1
  injection e1 with e1
  subst e1
  have h1:=hc j (by omega)
  have h2:=Lib.bytesWorld_at_new W 5 s
  have h3:j<(Lib.bytesCells W 5 s).size:=by
   simp only[World.cell?,h2]at h1
   rcases Nat.lt_or_ge j (Lib.bytesCells W 5 s).size with q|q
   ·exact q
   ·rw[Array.getElem?_eq_none q]at h1;cases h1
  simp[World.frozen?,h2]
  omega
def Iv (a b:Nat)(g:Nat):Prop:=a≤g∧g<b
def Dj (Gs:Nat→Nat→Prop):Prop:=∀i j g,i≠j→Gs i g→¬Gs j g
def SGd (w:World)(G:Nat→Prop)(Gs:Nat→Nat→Prop)(v:Value)(L:List ByteArray):Prop:=∃M:List Value,M.length=L.length∧RwG w G v L.length M∧∀(j:Nat) (x:ByteArray),L[j]?=some x→∃u:Value,M[j]?=some u∧BGf w (Gs (j+2)) u x
structure Nv.Od (w:World)(G:Nat→Prop)(m:Nv):Prop where
 ok:m.Ok w G
 ap:∃Gs,Dj Gs∧(∀j g,Gs j g→G g)∧BGf w (Gs 0) m.t m.d.text∧RGf w (Gs 1) m.y m.d.types.length (inv m.d.types)∧SGd w G Gs m.n m.d.names
theorem Nv.Od.gw {P:Nat→Prop}{w w':World}{G:Nat→Prop}{m:Nv}(h:m.Od w G)(hg:Gw P w w')(hp:∀k,P k→¬G k):m.Od w' G:=by
 obtain⟨Gs,h1,h2,h3,h4,M,h0,h5,h6⟩:=h.ap
 have hq:∀j k,P k→¬Gs j k:=fun j k a b=>hp k a (h2 j k b)
 refine⟨h.ok.gw hg hp,Gs,h1,h2,h3.gw hg (hq 0),h4.gw hg (hq 1),M,h0,h5.gw hg hp,fun j x hj=>?_⟩
 obtain⟨u,a,b⟩:=h6 j x hj
 exact⟨u,a,b.gw hg (hq _)⟩
theorem Nv.Od.mono {w:World}{G G':Nat→Prop}{m:Nv}(h:m.Od w G)(hG:∀g,G g→g<w.heap.size→G' g):m.Od w G':=by
 obtain⟨Gs,h1,h2,h3,h4,M,h0,h5,h6⟩:=h.ap
 refine⟨h.ok.mono hG,fun j g=>Gs j g∧g<w.heap.size,fun i j g q a b=>h1 i j g q a.1 b.1,fun j g a=>hG g (h2 j g a.1) a.2,h3.mono (fun g a b=>⟨a,b⟩),h4.mono (fun g a b=>⟨a,b⟩),M,h0,h5.mono (ne_of_len (by rw[h0];exact Nat.le_refl _)) hG,fun j x hj=>?_⟩
 obtain⟨u,a,b⟩:=h6 j x hj
 exact⟨u,a,b.mono (fun g a b=>⟨a,b⟩)⟩
theorem Nv.Od.kept {w w':World}{G:Nat→Prop}{m:Nv}(h:m.Od w G)(hb:Below w.heap.size w w'):m.Od w' G:=h.gw (P:=fun _=>False) (Gw.of_below hb) (fun _ q=>q.elim)
def oneG (i:Nat)(G:Nat→Prop)(j g:Nat):Prop:=j=i∧G g
theorem oneG_dj (i:Nat)(G:Nat→Prop):Dj (oneG i G):=fun _ _ _ q h k=>q (h.1.trans k.1.symm)
theorem od_plain (w:World)(G:Nat→Prop)(k n:Int):(⟨{ ndK k with n:=n },.slice none 0 0,.slice none 0 0,.slice none 0 0⟩:Nv).Od w G:=
 ⟨⟨RwG.nil _ _ _ _,⟨[],rfl,RwG.nil _ _ _ _,fun j x h=>by simp[ndK]at h⟩,RwG.nil _ _ _ _,by show (0:Nat)≤_;omega,by show (0:Nat)≤_;omega,fun x hx=>by simp[ndK]at hx,by show (0:Nat)≤_;omega⟩,oneG 0 G,oneG_dj 0 G,fun _ _ a=>a.2,RGf.nil _ _ _,RGf.nil _ _ _,[],rfl,RwG.nil _ _ _ _,fun j x h=>by simp[ndK]at h⟩
theorem od_text {w:World}{G:Nat→Prop}{v:Value}{s:ByteArray}(h:BGf w G v s)(hs:s.size≤1048576):(⟨{ ndK 17 with text:=s },v,.slice none 0 0,.slice none 0 0⟩:Nv).Od w G:=
 ⟨⟨h.bg,⟨[],rfl,RwG.nil _ _ _ _,fun j x h=>by simp[ndK]at h⟩,RwG.nil _ _ _ _,hs,by show (0:Nat)≤_;omega,fun x hx=>by simp[ndK]at hx,by show (0:Nat)≤_;omega⟩,oneG 0 G,oneG_dj 0 G,fun _ _ a=>a.2,BGf.mono h (fun g a _=>⟨rfl,a⟩),RGf.nil _ _ _,[],rfl,RwG.nil _ _ _ _,fun j x h=>by simp[ndK]at h⟩
theorem od_name {w:World}{G:Nat→Prop}{g:Nat}{k:Int}{t:TypeId}{v:Value}{s:ByteArray}(hb:Blk w g t #[v])(hg:G g)(h:BGf w G v s)(hs:s.size≤1048576):(⟨{ ndK k with names:=[s] },.slice none 0 0,.slice (some ⟨g,0,none⟩) 1 1,.slice none 0 0⟩:Nv).Od w G:=
 ⟨⟨RwG.nil _ _ _ _,⟨[v],rfl,RwG.of_blk hb hg 1,fun j x hj=>by
   cases j with
   |zero=>obtain rfl:s=x:=by simpa [ndK] using hj
          exact⟨v,rfl,h.bg⟩
   |succ j=>simp at hj⟩,RwG.nil _ _ _ _,by show (0:Nat)≤_;omega,by show (1:Nat)≤_;omega,fun x hx=>by rw[List.mem_singleton.1 hx];exact hs,by show (0:Nat)≤_;omega⟩,oneG 2 G,oneG_dj 2 G,fun _ _ a=>a.2,RGf.nil _ _ _,RGf.nil _ _ _,[v],rfl,RwG.of_blk hb hg 1,fun j x hj=>by
   cases j with
   |zero=>obtain rfl:s=x:=by simpa [ndK] using hj
          exact⟨v,rfl,BGf.mono h (fun g a _=>⟨rfl,a⟩)⟩
   |succ j=>simp at hj⟩
def ptM (m:Nv)(pl:Nat)(ks:List Pt):Pt:=⟨m.d::(ks.map Pt.t).flatten,pl::(ks.map Pt.p).flatten⟩
def prv (m:Nv)(pl:Nat)(vb:Value):Value:=.agg #[.int .i64 m.d.kind,.int .i64 m.d.n,m.t,m.n,m.y,.int .i64 m.d.count,.int .i64 (pl:Nat),vb]
theorem ptM_eq {m:Nv}{n:Nd}{pl:Nat}{ks:List Pt}(h:m.d = { n with count:=(ks.length:Int) }):ptM m pl ks=ptN n pl ks:=by unfold ptM ptN;rw[h]
inductive PM (w:World):(Nat→Prop)→Pt→Value→Prop
 |mk (G:Nat→Prop) (Gs:Nat→Nat→Prop) (m:Nv) (pl:Nat) (ks:List Pt) (vb:Value) (us:List Value) (hd:Dj Gs) (hG:∀j g,Gs j g→G g) (hk:0≤m.d.kind∧m.d.kind≤22) (hc:m.d.count=(ks.length:Int)) (hm:m.Od w (Gs 0)) (hl:us.length=ks.length) (hb:RwG w G vb ks.length us) (hs:∀(j:Nat) (k:Pt) (u:Value),ks[j]?=some k→us[j]?=some u→PM w (Gs (j+1)) k u):PM w G (ptM m pl ks) (.iface (ptK m.d.kind) (prv m pl vb))
theorem PM.gw {P:Nat→Prop}{w w':World}{G:Nat→Prop}{x:Pt}{v:Value}(h:PM w G x v)(hg:Gw P w w')(hp:∀k,P k→¬G k):PM w' G x v:=by
 induction h with
 |mk G Gs m pl ks vb us hd hG hk hc hm hl hb _ ih=>
  have hq:∀j k,P k→¬Gs j k:=fun j k a b=>hp k a (hG j k b)
  exact PM.mk G Gs m pl ks vb us hd hG hk hc (hm.gw hg (hq 0)) hl (hb.gw hg hp) (fun j k u a b=>ih j k u a b (hq _))
theorem PM.mono {w:World}{G:Nat→Prop}{x:Pt}{v:Value}(h:PM w G x v):∀ {G':Nat→Prop},(∀g,G g→g<w.heap.size→G' g)→PM w G' x v:=by
 induction h with
 |mk G Gs m pl ks vb us hd hG hk hc hm hl hb _ ih=>
  intro G' hG'
  exact PM.mk G' (fun j g=>Gs j g∧g<w.heap.size) m pl ks vb us (fun i j g q a b=>hd i j g q a.1 b.1) (fun j g a=>hG' g (hG j g a.1) a.2) hk hc (hm.mono (fun g a b=>⟨a,b⟩)) hl (hb.mono (ne_of_len (by rw[hl];exact Nat.le_refl _)) hG') (fun j k u a b=>ih j k u a b (fun g a b=>⟨a,b⟩))
theorem PM.kept {w w':World}{G:Nat→Prop}{x:Pt}{v:Value}(h:PM w G x v)(hb:Below w.heap.size w w'):PM w' G x v:=h.gw (P:=fun _=>False) (Gw.of_below hb) (fun _ q=>q.elim)
theorem PM.iv {w:World}{a:Nat}{x:Pt}{v:Value}(h:PM w (fun g=>a≤g) x v):PM w (Iv a w.heap.size) x v:=h.mono (fun _ q hl=>⟨q,hl⟩)
structure PmI (L:Nat)(V:World)(a b:Nat)(x:Pt)(v:Value):Prop where
 lo:L≤a
 pm:PM V (Iv a b) x v
theorem PmI.rd {L:Nat}{V V':World}{a b:Nat}{x:Pt}{v:Value}{c:PsC}(h:PmI L V a b x v)(hg:Gw (· = c.P) V V')(hP:c.P<L):PmI L V' a b x v:=⟨h.lo,h.pm.gw hg (fun k hk q=>by rw[hk]at q;have:=h.lo;have:=q.1;omega)⟩
theorem PmI.kept {L:Nat}{V V':World}{a b:Nat}{x:Pt}{v:Value}(h:PmI L V a b x v)(hb:Below V.heap.size V V'):PmI L V' a b x v:=⟨h.lo,h.pm.kept hb⟩
def Pts (w:World)(lo hi:Nat)(ks:List Pt)(us:List Value):Prop:=∃Gs,Dj Gs∧(∀j g,Gs j g→lo≤g∧g<hi)∧∀(j:Nat) (k:Pt) (u:Value),ks[j]?=some k→us[j]?=some u→PM w (Gs j) k u
theorem Pts.nil (w:World)(lo hi:Nat):Pts w lo hi [] []:=⟨fun _ _=>False,fun _ _ _ _ h=>h.elim,fun _ _ h=>h.elim,fun j k u h _=>by simp at h⟩
theorem Pts.app {w:World}{lo mi mj hi:Nat}{ks xs:List Pt}{us ys:List Value}(h:Pts w lo mi ks us)(hl:us.length=ks.length)(k:Pts w mj hi xs ys)(hm:mi≤mj)(h1:lo≤mj)(h2:mi≤hi):Pts w lo hi (ks++xs) (us++ys):=by
 obtain⟨Gs,d1,s1,e1⟩:=h
 obtain⟨Gx,d2,s2,e2⟩:=k
 refine⟨fun j=>if j<ks.length then Gs j else Gx (j - ks.length),fun i j g q a b=>?_,fun j g a=>?_,fun j k u hk hu=>?_⟩
 ·simp only at a b
  split at a<;>split at b
  ·exact d1 i j g q a b
  ·have:=s1 _ _ a;have:=s2 _ _ b;omega
  ·have:=s2 _ _ a;have:=s1 _ _ b;omega
  ·exact d2 _ _ g (by omega) a b
 ·simp only at a
  split at a
  ·have:=s1 _ _ a;omega
  ·have:=s2 _ _ a;omega
 ·by_cases hj:j<ks.length
  ·rw[List.getElem?_append_left hj]at hk
   rw[List.getElem?_append_left (by omega)]at hu
   simp only[if_pos hj]
   exact e1 j k u hk hu
  ·rw[List.getElem?_append_right (by omega)]at hk
   rw[List.getElem?_append_right (by omega),hl]at hu
   simp only[if_neg hj]
   exact e2 _ k u hk hu
theorem Pts.one {w:World}{a b:Nat}{x:Pt}{v:Value}(h:PM w (Iv a b) x v):Pts w a b [x] [v]:=
 ⟨oneG 0 (Iv a b),oneG_dj _ _,fun _ _ q=>q.2,fun j k u hk hu=>by
  cases j with
  |zero=>injection hk with hk;injection hu with hu;rw[← hk,← hu];exact h.mono (fun _ q _=>⟨rfl,q⟩)
  |succ j=>simp at hk⟩
theorem Pts.two {w:World}{a b a' b':Nat}{x y:Pt}{v u:Value}(h:PM w (Iv a b) x v)(k:PM w (Iv a' b') y u)(h1:b≤a')(h2:a≤a')(h3:b≤b'):Pts w a b' [x,y] [v,u]:=(Pts.one h).app rfl (Pts.one k) h1 h2 h3
theorem Pts.three {w:World}{a b a' b' a2 b2:Nat}{x y z:Pt}{v u t:Value}(h:PM w (Iv a b) x v)(k:PM w (Iv a' b') y u)(l:PM w (Iv a2 b2) z t)(h1:b≤a')(h2:a≤a')(h3:b≤b')(h4:b'≤a2)(h5:a≤a2)(h6:b'≤b2):Pts w a b2 [x,y,z] [v,u,t]:=(Pts.two h k h1 h2 h3).app rfl (Pts.one l) h4 h5 h6
theorem Pts.kept {w w':World}{lo hi:Nat}{ks:List Pt}{us:List Value}(h:Pts w lo hi ks us)(hb:Below w.heap.size w w'):Pts w' lo hi ks us:=by
 obtain⟨Gs,d1,s1,e1⟩:=h
 exact⟨Gs,d1,s1,fun j k u a b=>(e1 j k u a b).kept hb⟩
def Kids (w:World)(G:Nat→Prop)(m:Nv)(ks:List Pt)(us:List Value):Prop:=∃Gs,Dj Gs∧(∀j g,Gs j g→G g)∧m.Od w (Gs 0)∧∀(j:Nat) (k:Pt) (u:Value),ks[j]?=some k→us[j]?=some u→PM w (Gs (j+1)) k u
theorem Kids.leaf {w:World}{G:Nat→Prop}{m:Nv}(h:m.Od w G):Kids w G m [] []:=⟨oneG 0 G,oneG_dj 0 G,fun _ _ q=>q.2,h.mono (fun _ q _=>⟨rfl,q⟩),fun j k u h _=>by simp at h⟩
theorem Kids.of {w:World}{lo a b hi:Nat}{m:Nv}{ks:List Pt}{us:List Value}(h:m.Od w (Iv lo a))(k:Pts w b hi ks us)(h1:a≤b)(h2:lo≤b):Kids w (fun g=>lo≤g) m ks us:=by
 obtain⟨Gs,d1,s1,e1⟩:=k
 refine⟨fun j=>match j with|0=>Iv lo a|j+1=>Gs j,fun i j g q x y=>?_,fun j g x=>?_,h,fun j k u hk hu=>e1 j k u hk hu⟩
 ·cases i with
  |zero=>cases j with
   |zero=>exact q rfl
   |succ j=>have:=s1 _ _ y;have:=(show Iv lo a g from x).2;omega
  |succ i=>cases j with
   |zero=>have:=s1 _ _ x;have:=(show Iv lo a g from y).2;omega
   |succ j=>exact d1 i j g (by omega) x y
 ·cases j with
  |zero=>exact (show Iv lo a g from x).1
  |succ j=>have:=s1 _ _ x;show lo≤g;omega
theorem Kids.plain {w:World}{lo hi:Nat}{k n:Int}{ks:List Pt}{us:List Value}(h:Pts w lo hi ks us):Kids w (fun g=>lo≤g) ⟨{ ndK k with n:=n },.slice none 0 0,.slice none 0 0,.slice none 0 0⟩ ks us:=Kids.of (a:=lo) (od_plain _ _ _ _) h (Nat.le_refl _) (Nat.le_refl _)
theorem Pts.low {w:World}{lo lo' hi:Nat}{ks:List Pt}{us:List Value}(h:Pts w lo hi ks us)(hl:lo'≤lo):Pts w lo' hi ks us:=by
 obtain⟨Gs,d1,s1,e1⟩:=h
 exact⟨Gs,d1,fun j g a=>⟨Nat.le_trans hl (s1 j g a).1,(s1 j g a).2⟩,e1⟩
end Go.Proofs.YtbiakdjpeblclaaGreatDoor

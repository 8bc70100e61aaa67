/-
  The program's own reader of trees, on: expression, unary.
-/
import Derived.Test.YtbiakdjpeblclaaGreatDoorJPaPEV
import Derived.Test.YtbiakdjpeblclaaGreatDoorJPaQMY
import Derived.Deep.MidRow
namespace Go.Proofs.YtbiakdjpeblclaaGreatDoor
open Go.RowKit
def QUn (c:PsC)(e:PsE)(f:Nat):Prop:=∀w p,QsW w c e p.at_→p.bad<0→p.at_≤e.T.length→2*lft e p+2≤f→Calls Tryz.prog 176 #[.pointer (some ⟨c.P,0,none⟩)] w (RQ c e w (rU e f p).2 (KP w (rU e f p).1))
def QEx (c:PsC)(e:PsE)(f:Nat):Prop:=∀(l:Nat) w p,l≤100→QsW w c e p.at_→p.bad<0→p.at_≤e.T.length→2*lft e p+3≤f→Calls Tryz.prog 168 #[.pointer (some ⟨c.P,0,none⟩),.int .i64 (l:Nat)] w (RQ c e w (rE e f (l+1) p).2 (KP w (rE e f (l+1) p).1))
theorem tk_no {c:PsC}{e:PsE}{n:Nat}(s:ByteArray)(hn:n≤e.T.length)(hs:e.txt n≠s)(W:World)(h:QsW W c e n):
 Calls Tryz.prog 83 #[.pointer (some ⟨c.P,0,none⟩),.string s] W fun r w'=>r = .returned (.bool false)∧QdQ c e n W w':=by
 have:=qtake_any s h hn
 rw[decide_eq_false hs,if_neg hs]at this
 exact this
theorem tk_yes {c:PsC}{e:PsE}{n:Nat}(s:ByteArray)(hn:n≤e.T.length)(hs:e.txt n=s)(W:World)(h:QsW W c e n):
 Calls Tryz.prog 83 #[.pointer (some ⟨c.P,0,none⟩),.string s] W fun r w'=>r = .returned (.bool true)∧QdQ c e (n+1) W w':=by
 have:=qtake_any s h hn
 rw[decide_eq_true hs,if_pos hs]at this
 exact this
set_option maxHeartbeats 2000000 in
set_option maxRecDepth 1000000 in
theorem qexpr {c:PsC}{e:PsE}{f:Nat}(IHe:QEx c e f){w:World}{p:Ps}(h:QsW w c e p.at_)(hp:p.bad<0)(hn:p.at_≤e.T.length)(hf:2*lft e p+3≤f):
 Calls Tryz.prog 150 #[.pointer (some ⟨c.P,0,none⟩)] w (RQ c e w (rE e f 1 p).2 (KP w (rE e f 1 p).1)):=by
 have HC:=hide (IHe 0 w p (by omega) h hp hn hf)
 rw[Nat.zero_add]at HC
 obtain⟨R,hR⟩:∃R,rE e f 1 p=R:=⟨_,rfl⟩
 rw[hR]at HC ⊢
 clear h hR hf hp hn IHe
 go_enter Tryz.func150,Tryz.ntmps150
 go_wp2_with fail
 refine HC.out.mono ?_
 rintro r w1 ⟨hg1,⟨hb1,hq1,v,rfl,⟨⟨t,a,rfl⟩,hpm⟩⟩|⟨hb1,rfl⟩⟩
 ·have HPM:=hide hpm
  have HQ:=hide hq1
  have HG:=hide hg1
  clear hpm hq1 hg1 HC
  go_wp2
  go_ret
  exact RQ.ok hb1 HG.out HQ.out ⟨⟨_,_,rfl⟩,HPM.out⟩
 ·exact⟨rfl,RQ.fault hb1 (Mv.refl _ _) hg1⟩
set_option maxHeartbeats 2000000 in
set_option maxRecDepth 1000000 in
theorem un_not {w:World}{c:PsC}{e:PsE}{p:Ps}{f:Nat}(hE:EOk e)(IHu:QUn c e f)(hf:2*lft e p+2≤f+1)(h:QsW w c e p.at_)(hp:p.bad<0)(hn:p.at_≤e.T.length)(y:e.txt p.at_=(⟨#[33]⟩:ByteArray)):
 Calls Tryz.prog 176 #[.pointer (some ⟨c.P,0,none⟩)] w (RQ c e w (rU e (f+1) p).2 (KP w (rU e (f+1) p).1)):=by
 have HE:Hid (rU e (f+1) p=(ptN (ndK 21) (e.place p) [(rU e f p.on).1],(rU e f p.on).2)):=by
  show _=_
  rw[rU]
  rw[hE.is hp (w:=(⟨#[33]⟩:ByteArray)) (by decide +kernel),if_pos (by rw[decide_eq_true_eq];exact y)]
 rw[HE.out]
 have HTY:=hide (tk_yes (c:=c) (⟨#[33]⟩:ByteArray) hn y)
 have HPL:=hide (qplace_any h)
 have hPl:=h.blk.lt
 have hpe:e.place ⟨p.at_, -1,false⟩=e.place p:=rfl
 rw[hpe]at HPL
 obtain⟨Z,hZ⟩:∃Z,e.place p=Z:=⟨_,rfl⟩
 rw[hZ]at HPL ⊢
 have hlt:p.at_<e.T.length:=by
  by_cases q:p.at_<e.T.length
  ·exact q
  ·have:=(hE.end_ p.at_).mpr q
   rw[y]at this
   exact absurd this (by decide)
 have HU:=hide (fun W (hW:QsW W c e (p.at_+1))=>IHu W p.on hW hp hlt (by unfold lft at hf ⊢;rw[on_at];omega))
 have HH:=hide h
 obtain⟨R,hR⟩:∃R,rU e f p.on=R:=⟨_,rfl⟩
 simp only[hR]at HU ⊢
 clear h hR hZ hf IHu hE HE hpe hlt y
 go_enter Tryz.func176,Tryz.ntmps176
 go_wp2_with fail
 refine HPL.out.mono ?_
 rintro r w0 ⟨rfl,hb0⟩
 have HG0:=hide (Gw.of_below (P:=(· = c.P)) hb0)
 have HQ0:=hide (HH.out.below hb0)
 clear hb0 HPL
 go_wp2_with fail
 refine (HTY.out w0 HQ0.out).mono ?_
 rintro r w1 ⟨rfl,hq⟩
 have HG1:=hide (HG0.out.tr hq.2)
 have HQ1:=hide hq.1
 clear hq HTY HG0 HQ0
 go_wp2_with fail
 refine (HU.out w1 HQ1.out).mono ?_
 rintro r v1 ⟨hg1,⟨hb1,hq1,v,rfl,⟨⟨t,a,rfl⟩,hpm⟩⟩|⟨hb1,rfl⟩⟩
 ·have hA:Below v1.heap.size v1 (v1.alloc (.cells #[.iface t a] 65)):=(Below.refl _ _).alloc (Nat.le_refl _) _
  have hG1:=HG1.out.tr hg1
  have HMK:=hide (qmake_any Z (show (0:Int)≤21∧(21:Int)≤22 by decide) (Kids.plain (k:=21) (n:=0) (((Pts.one (hpm.low HG1.out.size).iv)).kept hA)) (ks:=[R.1]) (us:=[.iface t a]) rfl (RwG.of_blk (Blk.new v1 65 #[.iface t a]) hG1.size 1))
  have HQ:=hide (hq1.below hA)
  have HG:=hide (hG1.blw hA)
  clear hpm hq1 hg1 hG1 hA HU
  go_wp2_with fail
  refine HMK.out.mono ?_
  rintro r v2 ⟨⟨t2,a2,rfl,hpm⟩,hb2⟩
  have HPM:=hide hpm
  have HB2:=hide hb2
  clear hpm hb2
  go_wp2
  go_ret
  exact RQ.ok hb1 (HG.out.blw HB2.out) (HQ.out.below HB2.out) ⟨⟨_,_,rfl⟩,HPM.out⟩
 ·exact⟨rfl,RQ.fault hb1 (Mv.refl _ _) (HG1.out.tr hg1)⟩
set_option maxHeartbeats 2000000 in
set_option maxRecDepth 1000000 in
theorem un_neg {w:World}{c:PsC}{e:PsE}{p:Ps}{f:Nat}(hE:EOk e)(IHu:QUn c e f)(hf:2*lft e p+2≤f+1)(h:QsW w c e p.at_)(hp:p.bad<0)(hn:p.at_≤e.T.length)(n0:e.txt p.at_≠(⟨#[33]⟩:ByteArray))(y:e.txt p.at_=(⟨#[45]⟩:ByteArray)):
 Calls Tryz.prog 176 #[.pointer (some ⟨c.P,0,none⟩)] w (RQ c e w (rU e (f+1) p).2 (KP w (rU e (f+1) p).1)):=by
 have HE:Hid (rU e (f+1) p=(ptN (ndK 22) (e.place p) [(rU e f p.on).1],(rU e f p.on).2)):=by
  show _=_
  rw[rU]
  rw[hE.is hp (w:=(⟨#[33]⟩:ByteArray)) (by decide +kernel),if_neg (by rw[decide_eq_true_eq];exact n0)]
  rw[hE.is hp (w:=(⟨#[45]⟩:ByteArray)) (by decide +kernel),if_pos (by rw[decide_eq_true_eq];exact y)]
 rw[HE.out]
 have HT0:=hide (tk_no (c:=c) (⟨#[33]⟩:ByteArray) hn n0)
 have HTY:=hide (tk_yes (c:=c) (⟨#[45]⟩:ByteArray) hn y)
 have HPL:=hide (qplace_any h)
 have hPl:=h.blk.lt
 have hpe:e.place ⟨p.at_, -1,false⟩=e.place p:=rfl
 rw[hpe]at HPL
 obtain⟨Z,hZ⟩:∃Z,e.place p=Z:=⟨_,rfl⟩
 rw[hZ]at HPL ⊢
 have hlt:p.at_<e.T.length:=by
  by_cases q:p.at_<e.T.length
  ·exact q
  ·have:=(hE.end_ p.at_).mpr q
   rw[y]at this
   exact absurd this (by decide)
 have HU:=hide (fun W (hW:QsW W c e (p.at_+1))=>IHu W p.on hW hp hlt (by unfold lft at hf ⊢;rw[on_at];omega))
 have HH:=hide h
 obtain⟨R,hR⟩:∃R,rU e f p.on=R:=⟨_,rfl⟩
 simp only[hR]at HU ⊢
 clear h hR hZ hf IHu hE HE hpe hlt y n0
 go_enter Tryz.func176,Tryz.ntmps176
 go_wp2_with fail
 refine HPL.out.mono ?_
 rintro r w0 ⟨rfl,hb0⟩
 have HG0:=hide (Gw.of_below (P:=(· = c.P)) hb0)
 have HQ0:=hide (HH.out.below hb0)
 clear hb0 HPL
 go_wp2_with fail
 refine (HT0.out w0 HQ0.out).mono ?_
 rintro r w1 ⟨rfl,hq⟩
 have HG1:=hide (HG0.out.tr hq.2)
 have HQ1:=hide hq.1
 clear hq HT0 HG0 HQ0
 go_wp2_with fail
 refine (HTY.out w1 HQ1.out).mono ?_
 rintro r w2 ⟨rfl,hq⟩
 have HG2:=hide (HG1.out.tr hq.2)
 have HQ2:=hide hq.1
 clear hq HTY HG1 HQ1
 go_wp2_with fail
 refine (HU.out w2 HQ2.out).mono ?_
 rintro r v1 ⟨hg1,⟨hb1,hq1,v,rfl,⟨⟨t,a,rfl⟩,hpm⟩⟩|⟨hb1,rfl⟩⟩
 ·have hA:Below v1.heap.size v1 (v1.alloc (.cells #[.iface t a] 65)):=(Below.refl _ _).alloc (Nat.le_refl _) _
  have hG1:=HG2.out.tr hg1
  have HMK:=hide (qmake_any Z (show (0:Int)≤22∧(22:Int)≤22 by decide) (Kids.plain (k:=22) (n:=0) (((Pts.one (hpm.low HG2.out.size).iv)).kept hA)) (ks:=[R.1]) (us:=[.iface t a]) rfl (RwG.of_blk (Blk.new v1 65 #[.iface t a]) hG1.size 1))
  have HQ:=hide (hq1.below hA)
  have HG:=hide (hG1.blw hA)
  clear hpm hq1 hg1 hG1 hA HU
  go_wp2_with fail
  refine HMK.out.mono ?_
  rintro r v2 ⟨⟨t2,a2,rfl,hpm⟩,hb2⟩
  have HPM:=hide hpm
  have HB2:=hide hb2
  clear hpm hb2
  go_wp2
  go_ret
  exact RQ.ok hb1 (HG.out.blw HB2.out) (HQ.out.below HB2.out) ⟨⟨_,_,rfl⟩,HPM.out⟩
 ·exact⟨rfl,RQ.fault hb1 (Mv.refl _ _) (HG2.out.tr hg1)⟩
set_option maxHeartbeats 2000000 in
set_option maxRecDepth 1000000 in
theorem un_par {w:World}{c:PsC}{e:PsE}{p:Ps}{f:Nat}(hE:EOk e)(IHe:QEx c e f)(hf:2*lft e p+2≤f+1)(h:QsW w c e p.at_)(hp:p.bad<0)(hn:p.at_≤e.T.length)(n0:e.txt p.at_≠(⟨#[33]⟩:ByteArray))(n1:e.txt p.at_≠(⟨#[45]⟩:ByteArray))(y:e.txt p.at_=(⟨#[40]⟩:ByteArray)):
 Calls Tryz.prog 176 #[.pointer (some ⟨c.P,0,none⟩)] w (RQ c e w (rU e (f+1) p).2 (KP w (rU e (f+1) p).1)):=by
 have HE:Hid (rU e (f+1) p=((rE e f 1 p.on).1,e.want (rE e f 1 p.on).2 (⟨#[41]⟩:ByteArray))):=by
  show _=_
  rw[rU]
  rw[hE.is hp (w:=(⟨#[33]⟩:ByteArray)) (by decide +kernel),if_neg (by rw[decide_eq_true_eq];exact n0)]
  rw[hE.is hp (w:=(⟨#[45]⟩:ByteArray)) (by decide +kernel),if_neg (by rw[decide_eq_true_eq];exact n1)]
  rw[hE.is hp (w:=(⟨#[40]⟩:ByteArray)) (by decide +kernel),if_pos (by rw[decide_eq_true_eq];exact y)]
 rw[HE.out]
 have HT0:=hide (tk_no (c:=c) (⟨#[33]⟩:ByteArray) hn n0)
 have HT1:=hide (tk_no (c:=c) (⟨#[45]⟩:ByteArray) hn n1)
 have HTY:=hide (tk_yes (c:=c) (⟨#[40]⟩:ByteArray) hn y)
 have HPL:=hide (qplace_any h)
 have hPl:=h.blk.lt
 have hpe:e.place ⟨p.at_, -1,false⟩=e.place p:=rfl
 rw[hpe]at HPL
 obtain⟨Z,hZ⟩:∃Z,e.place p=Z:=⟨_,rfl⟩
 rw[hZ]at HPL
 have hlt:p.at_<e.T.length:=by
  by_cases q:p.at_<e.T.length
  ·exact q
  ·have:=(hE.end_ p.at_).mpr q
   rw[y]at this
   exact absurd this (by decide)
 have HU:=hide (fun W (hW:QsW W c e (p.at_+1))=>qexpr IHe (p:=p.on) hW hp hlt (by unfold lft at hf ⊢;rw[on_at];omega))
 have HTP:=hide (((mv_expr e f).1 1 p.on).top hlt)
 have HH:=hide h
 obtain⟨R,hR⟩:∃R,rE e f 1 p.on=R:=⟨_,rfl⟩
 simp only[hR]at HU HTP ⊢
 clear h hR hZ hf IHe HE hpe hlt y n0 n1
 go_enter Tryz.func176,Tryz.ntmps176
 go_wp2_with fail
 refine HPL.out.mono ?_
 rintro r w0 ⟨rfl,hb0⟩
 have HG0:=hide (Gw.of_below (P:=(· = c.P)) hb0)
 have HQ0:=hide (HH.out.below hb0)
 clear hb0 HPL
 go_wp2_with fail
 refine (HT0.out w0 HQ0.out).mono ?_
 rintro r w1 ⟨rfl,hq⟩
 have HG1:=hide (HG0.out.tr hq.2)
 have HQ1:=hide hq.1
 clear hq HT0 HG0 HQ0
 go_wp2_with fail
 refine (HT1.out w1 HQ1.out).mono ?_
 rintro r w2 ⟨rfl,hq⟩
 have HG2:=hide (HG1.out.tr hq.2)
 have HQ2:=hide hq.1
 clear hq HT1 HG1 HQ1
 go_wp2_with fail
 refine (HTY.out w2 HQ2.out).mono ?_
 rintro r w3 ⟨rfl,hq⟩
 have HG3:=hide (HG2.out.tr hq.2)
 have HQ3:=hide hq.1
 clear hq HTY HG2 HQ2
 go_wp2_with fail
 refine (HU.out w3 HQ3.out).mono ?_
 rintro r v1 ⟨hg1,⟨hb1,hq1,v,rfl,⟨⟨t,a,rfl⟩,hpm⟩⟩|⟨hb1,rfl⟩⟩
 ·have HWT:=hide (qwant hE (⟨#[41]⟩:ByteArray) (by decide +kernel) hq1 hb1 HTP.out)
  have HG:=hide (HG3.out.tr hg1)
  have HPM:=hide (hpm.low HG3.out.size)
  clear hpm hq1 hg1 HU
  go_wp2_with fail
  refine HWT.out.mono ?_
  rintro r v2 ⟨hg2,⟨hb2,hq2,_,rfl,rfl⟩|⟨hb2,rfl⟩⟩
  ·have HG2:=hide (HG.out.tr hg2)
   have HPM2:=hide (HPM.out.rd hg2 hPl)
   have HQ2:=hide hq2
   clear hg2 hq2
   go_wp2
   go_ret
   exact RQ.ok hb2 HG2.out HQ2.out ⟨⟨_,_,rfl⟩,HPM2.out⟩
  ·exact⟨rfl,RQ.fault hb2 (Mv.refl _ _) (HG.out.tr hg2)⟩
 ·exact⟨rfl,RQ.fault hb1 (mv_want _ _ _).1 (HG3.out.tr hg1)⟩
set_option maxHeartbeats 2000000 in
set_option maxRecDepth 1000000 in
theorem un_true {w:World}{c:PsC}{e:PsE}{p:Ps}{f:Nat}(hE:EOk e)(h:QsW w c e p.at_)(hp:p.bad<0)(hn:p.at_≤e.T.length)(n0:e.txt p.at_≠(⟨#[33]⟩:ByteArray))(n1:e.txt p.at_≠(⟨#[45]⟩:ByteArray))(n2:e.txt p.at_≠(⟨#[40]⟩:ByteArray))(y:e.txt p.at_=(⟨#[116,114,117,101]⟩:ByteArray)):
 Calls Tryz.prog 176 #[.pointer (some ⟨c.P,0,none⟩)] w (RQ c e w (rU e (f+1) p).2 (KP w (rU e (f+1) p).1)):=by
 have HE:Hid (rU e (f+1) p=(ptN { ndK 18 with n:=1 } (e.place p) [],p.on)):=by
  show _=_
  rw[rU]
  rw[hE.is hp (w:=(⟨#[33]⟩:ByteArray)) (by decide +kernel),if_neg (by rw[decide_eq_true_eq];exact n0)]
  rw[hE.is hp (w:=(⟨#[45]⟩:ByteArray)) (by decide +kernel),if_neg (by rw[decide_eq_true_eq];exact n1)]
  rw[hE.is hp (w:=(⟨#[40]⟩:ByteArray)) (by decide +kernel),if_neg (by rw[decide_eq_true_eq];exact n2)]
  rw[hE.is hp (w:=(⟨#[116,114,117,101]⟩:ByteArray)) (by decide +kernel),if_pos (by rw[decide_eq_true_eq];exact y)]
 rw[HE.out]
 have HT0:=hide (tk_no (c:=c) (⟨#[33]⟩:ByteArray) hn n0)
 have HT1:=hide (tk_no (c:=c) (⟨#[45]⟩:ByteArray) hn n1)
 have HT2:=hide (tk_no (c:=c) (⟨#[40]⟩:ByteArray) hn n2)
 have HTY:=hide (tk_yes (c:=c) (⟨#[116,114,117,101]⟩:ByteArray) hn y)
 have HPL:=hide (qplace_any h)
 have hPl:=h.blk.lt
 have hpe:e.place ⟨p.at_, -1,false⟩=e.place p:=rfl
 rw[hpe]at HPL
 obtain⟨Z,hZ⟩:∃Z,e.place p=Z:=⟨_,rfl⟩
 rw[hZ]at HPL ⊢
 have HH:=hide h
 clear h hZ hE HE hpe y n0 n1 n2
 go_enter Tryz.func176,Tryz.ntmps176
 go_wp2_with fail
 refine HPL.out.mono ?_
 rintro r w0 ⟨rfl,hb0⟩
 have HG0:=hide (Gw.of_below (P:=(· = c.P)) hb0)
 have HQ0:=hide (HH.out.below hb0)
 clear hb0 HPL
 go_wp2_with fail
 refine (HT0.out w0 HQ0.out).mono ?_
 rintro r w1 ⟨rfl,hq⟩
 have HG1:=hide (HG0.out.tr hq.2)
 have HQ1:=hide hq.1
 clear hq HT0 HG0 HQ0
 go_wp2_with fail
 refine (HT1.out w1 HQ1.out).mono ?_
 rintro r w2 ⟨rfl,hq⟩
 have HG2:=hide (HG1.out.tr hq.2)
 have HQ2:=hide hq.1
 clear hq HT1 HG1 HQ1
 go_wp2_with fail
 refine (HT2.out w2 HQ2.out).mono ?_
 rintro r w3 ⟨rfl,hq⟩
 have HG3:=hide (HG2.out.tr hq.2)
 have HQ3:=hide hq.1
 clear hq HT2 HG2 HQ2
 go_wp2_with fail
 refine (HTY.out w3 HQ3.out).mono ?_
 rintro r w4 ⟨rfl,hq⟩
 have HG4:=hide (HG3.out.tr hq.2)
 have HQ4:=hide hq.1
 clear hq HTY HG3 HQ3
 have HMK:=hide (qmake_any Z (show (0:Int)≤18∧(18:Int)≤22 by decide) (Kids.leaf (od_plain w4 (fun g=>w.heap.size≤g) 18 1)) rfl (RwG.nil _ _ 0 []))
 go_wp2_with fail
 refine HMK.out.mono ?_
 rintro r v2 ⟨⟨t2,a2,rfl,hpm⟩,hb2⟩
 have HPM:=hide hpm
 have HB2:=hide hb2
 clear hpm hb2
 go_wp2
 go_ret
 exact RQ.ok (q:=p.on) hp (HG4.out.blw HB2.out) (HQ4.out.below HB2.out) ⟨⟨_,_,rfl⟩,HPM.out⟩
set_option maxHeartbeats 2000000 in
set_option maxRecDepth 1000000 in
theorem un_false {w:World}{c:PsC}{e:PsE}{p:Ps}{f:Nat}(hE:EOk e)(h:QsW w c e p.at_)(hp:p.bad<0)(hn:p.at_≤e.T.length)(n0:e.txt p.at_≠(⟨#[33]⟩:ByteArray))(n1:e.txt p.at_≠(⟨#[45]⟩:ByteArray))(n2:e.txt p.at_≠(⟨#[40]⟩:ByteArray))(n3:e.txt p.at_≠(⟨#[116,114,117,101]⟩:ByteArray))(y:e.txt p.at_=(⟨#[102,97,108,115,101]⟩:ByteArray)):
 Calls Tryz.prog 176 #[.pointer (some ⟨c.P,0,none⟩)] w (RQ c e w (rU e (f+1) p).2 (KP w (rU e (f+1) p).1)):=by
 have HE:Hid (rU e (f+1) p=(ptN (ndK 18) (e.place p) [],p.on)):=by
  show _=_
  rw[rU]
  rw[hE.is hp (w:=(⟨#[33]⟩:ByteArray)) (by decide +kernel),if_neg (by rw[decide_eq_true_eq];exact n0)]
  rw[hE.is hp (w:=(⟨#[45]⟩:ByteArray)) (by decide +kernel),if_neg (by rw[decide_eq_true_eq];exact n1)]
  rw[hE.is hp (w:=(⟨#[40]⟩:ByteArray)) (by decide +kernel),if_neg (by rw[decide_eq_true_eq];exact n2)]
  rw[hE.is hp (w:=(⟨#[116,114,117,101]⟩:ByteArray)) (by decide +kernel),if_neg (by rw[decide_eq_true_eq];exact n3)]
  rw[hE.is hp (w:=(⟨#[102,97,108,115,101]⟩:ByteArray)) (by decide +kernel),if_pos (by rw[decide_eq_true_eq];exact y)]
 rw[HE.out]
 have HT0:=hide (tk_no (c:=c) (⟨#[33]⟩:ByteArray) hn n0)
 have HT1:=hide (tk_no (c:=c) (⟨#[45]⟩:ByteArray) hn n1)
 have HT2:=hide (tk_no (c:=c) (⟨#[40]⟩:ByteArray) hn n2)
 have HT3:=hide (tk_no (c:=c) (⟨#[116,114,117,101]⟩:ByteArray) hn n3)
 have HTY:=hide (tk_yes (c:=c) (⟨#[102,97,108,115,101]⟩:ByteArray) hn y)
 have HPL:=hide (qplace_any h)
 have hPl:=h.blk.lt
 have hpe:e.place ⟨p.at_, -1,false⟩=e.place p:=rfl
 rw[hpe]at HPL
 obtain⟨Z,hZ⟩:∃Z,e.place p=Z:=⟨_,rfl⟩
 rw[hZ]at HPL ⊢
 have HH:=hide h
 clear h hZ hE HE hpe y n0 n1 n2 n3
 go_enter Tryz.func176,Tryz.ntmps176
 go_wp2_with fail
 refine HPL.out.mono ?_
 rintro r w0 ⟨rfl,hb0⟩
 have HG0:=hide (Gw.of_below (P:=(· = c.P)) hb0)
 have HQ0:=hide (HH.out.below hb0)
 clear hb0 HPL
 go_wp2_with fail
 refine (HT0.out w0 HQ0.out).mono ?_
 rintro r w1 ⟨rfl,hq⟩
 have HG1:=hide (HG0.out.tr hq.2)
 have HQ1:=hide hq.1
 clear hq HT0 HG0 HQ0
 go_wp2_with fail
 refine (HT1.out w1 HQ1.out).mono ?_
 rintro r w2 ⟨rfl,hq⟩
 have HG2:=hide (HG1.out.tr hq.2)
 have HQ2:=hide hq.1
 clear hq HT1 HG1 HQ1
 go_wp2_with fail
 refine (HT2.out w2 HQ2.out).mono ?_
 rintro r w3 ⟨rfl,hq⟩
 have HG3:=hide (HG2.out.tr hq.2)
 have HQ3:=hide hq.1
 clear hq HT2 HG2 HQ2
 go_wp2_with fail
 refine (HT3.out w3 HQ3.out).mono ?_
 rintro r w4 ⟨rfl,hq⟩
 have HG4:=hide (HG3.out.tr hq.2)
 have HQ4:=hide hq.1
 clear hq HT3 HG3 HQ3
 go_wp2_with fail
 refine (HTY.out w4 HQ4.out).mono ?_
 rintro r w5 ⟨rfl,hq⟩
 have HG5:=hide (HG4.out.tr hq.2)
 have HQ5:=hide hq.1
 clear hq HTY HG4 HQ4
 have HMK:=hide (qmake_any Z (show (0:Int)≤18∧(18:Int)≤22 by decide) (Kids.leaf (od_plain w5 (fun g=>w.heap.size≤g) 18 0)) rfl (RwG.nil _ _ 0 []))
 go_wp2_with fail
 refine HMK.out.mono ?_
 rintro r v2 ⟨⟨t2,a2,rfl,hpm⟩,hb2⟩
 have HPM:=hide hpm
 have HB2:=hide hb2
 clear hpm hb2
 go_wp2
 go_ret
 exact RQ.ok (q:=p.on) hp (HG5.out.blw HB2.out) (HQ5.out.below HB2.out) ⟨⟨_,_,rfl⟩,HPM.out⟩
set_option maxHeartbeats 2000000 in
set_option maxRecDepth 1000000 in
theorem un_leaf {w:World}{c:PsC}{e:PsE}{p:Ps}{f:Nat}(hE:EOk e)(h:QsW w c e p.at_)(hp:p.bad<0)(hn:p.at_≤e.T.length)(n0:e.txt p.at_≠(⟨#[33]⟩:ByteArray))(n1:e.txt p.at_≠(⟨#[45]⟩:ByteArray))(n2:e.txt p.at_≠(⟨#[40]⟩:ByteArray))(n3:e.txt p.at_≠(⟨#[116,114,117,101]⟩:ByteArray))(n4:e.txt p.at_≠(⟨#[102,97,108,115,101]⟩:ByteArray)):
 Calls Tryz.prog 176 #[.pointer (some ⟨c.P,0,none⟩)] w (RQ c e w (rU e (f+1) p).2 (KP w (rU e (f+1) p).1)):=by
 have HE:Hid (rU e (f+1) p=rLf e (e.place p) p):=by
  show _=_
  rw[rU]
  rw[hE.is hp (w:=(⟨#[33]⟩:ByteArray)) (by decide +kernel),if_neg (by rw[decide_eq_true_eq];exact n0)]
  rw[hE.is hp (w:=(⟨#[45]⟩:ByteArray)) (by decide +kernel),if_neg (by rw[decide_eq_true_eq];exact n1)]
  rw[hE.is hp (w:=(⟨#[40]⟩:ByteArray)) (by decide +kernel),if_neg (by rw[decide_eq_true_eq];exact n2)]
  rw[hE.is hp (w:=(⟨#[116,114,117,101]⟩:ByteArray)) (by decide +kernel),if_neg (by rw[decide_eq_true_eq];exact n3)]
  rw[hE.is hp (w:=(⟨#[102,97,108,115,101]⟩:ByteArray)) (by decide +kernel),if_neg (by rw[decide_eq_true_eq];exact n4)]
  rfl
 rw[HE.out]
 have HT0:=hide (tk_no (c:=c) (⟨#[33]⟩:ByteArray) hn n0)
 have HT1:=hide (tk_no (c:=c) (⟨#[45]⟩:ByteArray) hn n1)
 have HT2:=hide (tk_no (c:=c) (⟨#[40]⟩:ByteArray) hn n2)
 have HT3:=hide (tk_no (c:=c) (⟨#[116,114,117,101]⟩:ByteArray) hn n3)
 have HT4:=hide (tk_no (c:=c) (⟨#[102,97,108,115,101]⟩:ByteArray) hn n4)
 have HPL:=hide (qplace_any h)
 have hPl:=h.blk.lt
 have hpe:e.place ⟨p.at_, -1,false⟩=e.place p:=rfl
 rw[hpe]at HPL
 obtain⟨Z,hZ⟩:∃Z,e.place p=Z:=⟨_,rfl⟩
 rw[hZ]at HPL ⊢
 have HLF:=hide (fun W (hW:QsW W c e p.at_)=>qleaf (p:=p) Z hE hW hp)
 have HH:=hide h
 obtain⟨R,hR⟩:∃R,rLf e Z p=R:=⟨_,rfl⟩
 simp only[hR]at HLF ⊢
 clear h hZ hE HE hpe hR n0 n1 n2 n3 n4
 go_enter Tryz.func176,Tryz.ntmps176
 go_wp2_with fail
 refine HPL.out.mono ?_
 rintro r w0 ⟨rfl,hb0⟩
 have HG0:=hide (Gw.of_below (P:=(· = c.P)) hb0)
 have HQ0:=hide (HH.out.below hb0)
 clear hb0 HPL
 go_wp2_with fail
 refine (HT0.out w0 HQ0.out).mono ?_
 rintro r w1 ⟨rfl,hq⟩
 have HG1:=hide (HG0.out.tr hq.2)
 have HQ1:=hide hq.1
 clear hq HT0 HG0 HQ0
 go_wp2_with fail
 refine (HT1.out w1 HQ1.out).mono ?_
 rintro r w2 ⟨rfl,hq⟩
 have HG2:=hide (HG1.out.tr hq.2)
 have HQ2:=hide hq.1
 clear hq HT1 HG1 HQ1
 go_wp2_with fail
 refine (HT2.out w2 HQ2.out).mono ?_
 rintro r w3 ⟨rfl,hq⟩
 have HG3:=hide (HG2.out.tr hq.2)
 have HQ3:=hide hq.1
 clear hq HT2 HG2 HQ2
 go_wp2_with fail
 refine (HT3.out w3 HQ3.out).mono ?_
 rintro r w4 ⟨rfl,hq⟩
 have HG4:=hide (HG3.out.tr hq.2)
 have HQ4:=hide hq.1
 clear hq HT3 HG3 HQ3
 go_wp2_with fail
 refine (HT4.out w4 HQ4.out).mono ?_
 rintro r w5 ⟨rfl,hq⟩
 have HG5:=hide (HG4.out.tr hq.2)
 have HQ5:=hide hq.1
 clear hq HT4 HG4 HQ4
 go_wp2_with fail
 refine (HLF.out w5 HQ5.out).mono ?_
 rintro r v1 ⟨hg1,⟨hb1,hq1,v,rfl,⟨⟨t,a,rfl⟩,hpm⟩⟩|⟨hb1,rfl⟩⟩
 ·have HG:=hide (HG5.out.tr hg1)
  have HPM:=hide (hpm.low HG5.out.size)
  have HQ:=hide hq1
  clear hpm hg1 hq1
  go_wp2
  go_ret
  exact RQ.ok hb1 HG.out HQ.out ⟨⟨_,_,rfl⟩,HPM.out⟩
 ·exact⟨rfl,RQ.fault hb1 (Mv.refl _ _) (HG5.out.tr hg1)⟩
theorem qunary {c:PsC}{e:PsE}{f:Nat}(hE:EOk e)(IHu:QUn c e f)(IHe:QEx c e f):QUn c e (f+1):=fun w p h hp hn hf=>by
 by_cases n0:e.txt p.at_=(⟨#[33]⟩:ByteArray)
 ·exact un_not hE IHu hf h hp hn n0
 by_cases n1:e.txt p.at_=(⟨#[45]⟩:ByteArray)
 ·exact un_neg hE IHu hf h hp hn n0 n1
 by_cases n2:e.txt p.at_=(⟨#[40]⟩:ByteArray)
 ·exact un_par hE IHe hf h hp hn n0 n1 n2
 by_cases n3:e.txt p.at_=(⟨#[116,114,117,101]⟩:ByteArray)
 ·exact un_true hE h hp hn n0 n1 n2 n3
 by_cases n4:e.txt p.at_=(⟨#[102,97,108,115,101]⟩:ByteArray)
 ·exact un_false hE h hp hn n0 n1 n2 n3 n4
 exact un_leaf hE h hp hn n0 n1 n2 n3 n4
def opL : List Value:=(List.range 14).flatMap fun n=>[.string (sgW.getD n ⟨#[]⟩),.int .i64 ((sgB.getD n 0 - 1:Nat):Int)]
theorem TabQ.opsR {w:World}(h:TabQ w):w.rangeAt 9 0 opL:=by
 have a:=fun n (hn:n<14)=>(h.ops n hn).1
 have b:=fun n (hn:n<14)=>(h.ops n hn).2
 have hl:opL.length=28:=rfl
 intro j v hj
 have hlt:j<28:=by rw[← hl];exact (List.getElem?_eq_some_iff.1 hj).1
 rw[Nat.zero_add]
 have q:j=0∨j=1∨j=2∨j=3∨j=4∨j=5∨j=6∨j=7∨j=8∨j=9∨j=10∨j=11∨j=12∨j=13∨j=14∨j=15∨j=16∨j=17∨j=18∨j=19∨j=20∨j=21∨j=22∨j=23∨j=24∨j=25∨j=26∨j=27:=by omega
 rcases q with rfl|rfl|rfl|rfl|rfl|rfl|rfl|rfl|rfl|rfl|rfl|rfl|rfl|rfl|rfl|rfl|rfl|rfl|rfl|rfl|rfl|rfl|rfl|rfl|rfl|rfl|rfl|rfl<;>injection hj with hj<;>rw[← hj]
 ·exact a 0 (by omega)
 ·exact b 0 (by omega)
 ·exact a 1 (by omega)
 ·exact b 1 (by omega)
 ·exact a 2 (by omega)
 ·exact b 2 (by omega)
 ·exact a 3 (by omega)
 ·exact b 3 (by omega)
 ·exact a 4 (by omega)
 ·exact b 4 (by omega)
 ·exact a 5 (by omega)
 ·exact b 5 (by omega)
 ·exact a 6 (by omega)
 ·exact b 6 (by omega)
 ·exact a 7 (by omega)
 ·exact b 7 (by omega)
 ·exact a 8 (by omega)
 ·exact b 8 (by omega)
 ·exact a 9 (by omega)
 ·exact b 9 (by omega)
 ·exact a 10 (by omega)
 ·exact b 10 (by omega)
 ·exact a 11 (by omega)
 ·exact b 11 (by omega)
 ·exact a 12 (by omega)
 ·exact b 12 (by omega)
 ·exact a 13 (by omega)
 ·exact b 13 (by omega)
theorem op_idx (k:Nat)(hk:k<14)(W:World):(Instr.index 217 (.agg opL.toArray) (.int .i64 (k:Nat))).run Tryz.prog W = .ok (.agg #[.string (sgW.getD k ⟨#[]⟩),.int .i64 ((sgB.getD k 0 - 1:Nat):Int)]) W:=
 match k,hk with
 |0,_=>by kernel_rfl
 |1,_=>by kernel_rfl
 |2,_=>by kernel_rfl
 |3,_=>by kernel_rfl
 |4,_=>by kernel_rfl
 |5,_=>by kernel_rfl
 |6,_=>by kernel_rfl
 |7,_=>by kernel_rfl
 |8,_=>by kernel_rfl
 |9,_=>by kernel_rfl
 |10,_=>by kernel_rfl
 |11,_=>by kernel_rfl
 |12,_=>by kernel_rfl
 |13,_=>by kernel_rfl
def opK (e:PsE)(l n:Nat):Nat→Option Nat
 |0=>none
 |k+1=>match opK e l n k with
  |some j=>some j
  |none=>if l≤sgB.getD k 0 - 1∧e.txt n=sgW.getD k ⟨#[]⟩ then some k else none
def OpQ (c:PsC)(e:PsE)(n:Nat)(w:World)(R:Option Nat)(r:Ending)(w':World):Prop:=match R with
 |some k=>r = .returned (.tuple #[.int .i64 (k:Nat),.bool true])∧QdQ c e (n+1) w w'
 |none=>r = .returned (.tuple #[.int .i64 0,.bool false])∧QdQ c e n w w'
theorem opK_ext {e:PsE}{l n m k:Nat}(h:opK e l n m=some k):∀d,m≤d→opK e l n d=some k
 |0,hd=>by obtain rfl:m=0:=by omega
           exact h
 |d+1,hd=>by
  by_cases g:m=d+1
  ·rw[← g];exact h
  ·rw[opK,opK_ext h d (by omega)]
set_option maxHeartbeats 4000000 in
set_option maxRecDepth 1000000 in
theorem qop_any {w:World}{c:PsC}{e:PsE}{n:Nat}(l:Nat)(h:QsW w c e n)(hn:n≤e.T.length):
 Calls Tryz.prog 177 #[.pointer (some ⟨c.P,0,none⟩),.int .i64 (l:Nat)] w (OpQ c e n w (opK e l n 14)):=by
 have HRG:=hide h.env.tab.opsR
 have HIX:=hide op_idx
 obtain⟨OA,hOA⟩:∃OA,Value.agg opL.toArray=OA:=⟨_,rfl⟩
 rw[hOA]at HIX
 have HOA:=hide hOA
 obtain⟨R,hR⟩:∃R,opK e l n 14=R:=⟨_,rfl⟩
 have HR:=hide hR
 rw[hR]
 have HH:=hide h
 have htl:=h.tl
 clear h hOA hR
 go_enter Tryz.func177,Tryz.ntmps177
 go_wp2_with (refine wpList_load_mid rfl 217 (.global 9) rfl 9 0 rfl opL _ HRG.out Tryz.underlying217 rfl (by kernel_rfl) ?_;rw[HOA.out])
 go_loopw [9] (fun iv wr=>∃k:Nat,k≤14∧iv = .int .i64 (k:Nat)∧opK e l n k=none∧QdQ c e n w wr) (fun iv _=>14 - (intOf iv).toNat)
 case atStart=>exact⟨0,by omega,rfl,rfl,⟨HH.out,Gw.refl _ _⟩⟩
 case round=>
  obtain⟨k,hk,rfl,hno,hq⟩:=hrel
  rename World=>V
  by_cases hlt:k<14
  ·have hlti:(k:Int)<14:=by omega
   have hix:=HIX.out k hlt V
   have hb6:sgB.getD k 0 - 1≤10:=by
    have q:k=0∨k=1∨k=2∨k=3∨k=4∨k=5∨k=6∨k=7∨k=8∨k=9∨k=10∨k=11∨k=12∨k=13:=by omega
    rcases q with rfl|rfl|rfl|rfl|rfl|rfl|rfl|rfl|rfl|rfl|rfl|rfl|rfl|rfl<;>decide
   have HOK:Hid (opK e l n (k+1)=if l≤sgB.getD k 0 - 1∧e.txt n=sgW.getD k ⟨#[]⟩ then some k else none):=by show _=_;rw[opK,hno]
   obtain⟨S,hS⟩:∃S,sgW.getD k ⟨#[]⟩=S:=⟨_,rfl⟩
   obtain⟨bk,hbk⟩:∃b,sgB.getD k 0 - 1=b:=⟨_,rfl⟩
   rw[hS,hbk]at hix HOK
   rw[hbk]at hb6
   obtain⟨W1,hW1⟩:∃W,V.alloc (.cells #[.string S,.int .i64 (bk:Nat)] 216)=W:=⟨_,rfl⟩
   have hB1:Below V.heap.size V W1:=by rw[← hW1];exact (Below.refl _ _).alloc (Nat.le_refl _) _
   have hBk:Blk W1 V.heap.size 216 #[.string S,.int .i64 (bk:Nat)]:=by rw[← hW1];exact Blk.new _ _ _
   have g0:=hBk.cell 0
   have g1:=hBk.cell 1
   simp only[List.getElem?_toArray,List.getElem?_cons_succ,List.getElem?_cons_zero]at g0 g1
   have HQ1:=hide (hq.trans (QdQ.of_below hq.1 hB1))
   have HNO:=hide hno
   clear hS hbk hq hB1 hBk hno HIX HH
   by_cases hb:l≤bk
   ·have hbi:(l:Int)≤(bk:Int):=by omega
    have HTK:=hide (qtake_any S HQ1.out.1 hn)
    have HB:=hide hb
    clear hb
    go_wp2_with fail
    refine HTK.out.mono ?_
    rintro r V1 ⟨rfl,hq⟩
    by_cases hs:e.txt n=S
    ·rw[if_pos hs]at hq
     rw[decide_eq_true hs]
     have HO:Hid (R=some k):=by
      show R=_
      rw[← HR.out]
      exact opK_ext (by rw[HOK.out,if_pos ⟨HB.out,hs⟩]) 14 (by omega)
     have HQ2:=hide (HQ1.out.trans hq)
     clear hq hs HTK HQ1
     go_wp2
     go_ret2
     rw[HO.out]
     exact⟨rfl,HQ2.out⟩
    ·rw[if_neg hs]at hq
     rw[decide_eq_false hs]
     have HO:Hid (opK e l n (k+1)=none):=by show _=_;rw[HOK.out,if_neg (fun q=>hs q.2)]
     have HQ2:=hide (HQ1.out.trans hq)
     clear hq hs HTK HQ1
     go_wp2
     go_roundw
     case rel=>exact⟨k+1,by omega,by go_num,HO.out,HQ2.out⟩
     case measure=>simp[intOf];omega
   ·have hbi:¬(l:Int)≤(bk:Int):=by omega
    have HO:Hid (opK e l n (k+1)=none):=by show _=_;rw[HOK.out,if_neg (fun q=>hb q.1)]
    clear hb
    go_wp2_with fail
    exact⟨⟨k+1,by omega,by go_num,HO.out,HQ1.out⟩,by simp[intOf];omega⟩
  ·obtain rfl:k=14:=by omega
   have HQ:=hide hq
   have HNO:Hid (R=none):=by show R=_;rw[← HR.out];exact hno
   clear hq hno hk hlt
   go_wp2
   go_ret2
   rw[HNO.out]
   exact⟨rfl,HQ.out⟩
theorem opK_some {e:PsE}{l n k:Nat}:∀m,opK e l n m=some k→k<m∧l≤sgB.getD k 0 - 1∧e.txt n=sgW.getD k ⟨#[]⟩
 |0,h=>by cases h
 |m+1,h=>by
  rw[opK]at h
  cases hm:opK e l n m with
  |some j=>
   rw[hm]at h
   injection h with h
   subst h
   have:=opK_some m hm
   exact⟨by omega,this.2⟩
  |none=>
   rw[hm]at h
   simp only at h
   by_cases q:l≤sgB.getD m 0 - 1∧e.txt n=sgW.getD m ⟨#[]⟩
   ·rw[if_pos q]at h
    injection h with h
    subst h
    exact⟨by omega,q⟩
   ·rw[if_neg q]at h;cases h
theorem opK_none {e:PsE}{l n:Nat}:∀m,opK e l n m=none→∀k,k<m→¬(l≤sgB.getD k 0 - 1∧e.txt n=sgW.getD k ⟨#[]⟩)
 |0,_,k,hk=>by omega
 |m+1,h,k,hk=>by
  rw[opK]at h
  cases hm:opK e l n m with
  |some j=>rw[hm]at h;cases h
  |none=>
   rw[hm]at h
   simp only at h
   by_cases q:l≤sgB.getD m 0 - 1∧e.txt n=sgW.getD m ⟨#[]⟩
   ·rw[if_pos q]at h;cases h
   ·by_cases g:k=m
    ·rw[g];exact q
    ·exact opK_none m hm k (by omega)
def atQ (c:PsC)(w:World):Nat:=match w.cell? ⟨c.P,2,none⟩ with|some v=>(intOf v).toNat|none=>0
theorem atQ_of {w:World}{c:PsC}{e:PsE}{n:Nat}(h:QsW w c e n):atQ c w=n:=by
 unfold atQ
 rw[h.cells.2.2]
 simp[intOf]
def RdF (c:PsC)(e:PsE)(F:FuncId)(n0:Nat)(st:Ps→Pt × Ps):Prop:=∀V p,QsW V c e p.at_→p.bad<0→p.at_≤e.T.length→n0≤p.at_→Calls Tryz.prog F #[.pointer (some ⟨c.P,0,none⟩)] V (RQ c e V (st p).2 (KP V (st p).1))
set_option maxHeartbeats 4000000 in
set_option maxRecDepth 1000000 in
theorem qlist_any {w:World}{c:PsC}{e:PsE}{p:Ps}{F:FuncId}{n0:Nat}{st:Ps→Pt × Ps}{btw cl:ByteArray}{d:Nat}(hE:EOk e)(hbw:btw.size=0∨wOk btw=true)(hent:∀args W,(callFunc F args).run Tryz.prog W = .ok (.enter F args) W)(hF:RdF c e F n0 st)(hM:∀p,Mv e p (st p).2)(hG:∀p,Pg p (st p).2)(h:QsW w c e p.at_)(hp:p.bad<0)(hn:p.at_≤e.T.length)(hn0:n0≤p.at_)(hd:e.T.length<p.at_+d):
 Calls Tryz.prog 54 #[.pointer (some ⟨c.P,0,none⟩),.string btw,.string cl,.func (.func F) #[.pointer (some ⟨c.P,0,none⟩)] #[]] w (RQ c e w (rL e st btw cl d [] p).2 (KL w (rL e st btw cl d [] p).1)):=by
 have HF:=hide hF
 have HH:=hide h
 have HP0:Hid (p.bad<0∧p.at_≤e.T.length∧n0≤p.at_∧e.T.length<p.at_+d):=⟨hp,hn,hn0,hd⟩
 have htl:=h.tl
 have hPl:=h.blk.lt
 obtain⟨R,hR⟩:∃R,rL e st btw cl d [] p=R:=⟨_,rfl⟩
 have HR:=hide hR
 rw[hR]
 clear hR h hp hn hn0 hd hF
 go_enter Tryz.func54,Tryz.ntmps54
 go_wp2_with fail
 go_loopw [9] (fun lv wr=>∃(d:Nat) (ks:List Pt) (us:List Value) (p:Ps),rL e st btw cl d ks p=R∧p.bad<0∧p.at_≤e.T.length∧n0≤p.at_∧e.T.length<p.at_+d∧ks.length≤p.at_∧QsW wr c e p.at_∧Gw (· = c.P) w wr∧PO wr w.heap.size wr.heap.size lv ks us) (fun _ wr=>e.T.length+1 - atQ c wr)
 case atStart=>exact⟨d,[],[],p,HR.out,HP0.out.1,HP0.out.2.1,HP0.out.2.2.1,HP0.out.2.2.2,Nat.zero_le _,HH.out,Gw.refl _ _,PO.nil _ _ _⟩
 case round=>
  obtain⟨d,ks,us,p,hRL,hp,hn,hn0,hd,hkl,hq,hg,hpo⟩:=hrel
  rename World=>V
  obtain⟨d,rfl⟩:∃k,d=k+1:=⟨d - 1,by omega⟩
  rw[rL]at hRL
  have HTK:=hide (qtake_any cl hq hn)
  obtain⟨la,lc,rfl⟩:=own_sl hpo.own
  have hmu:=atQ_of hq
  have HQ:=hide hq
  have HG:=hide hg
  have HPO:=hide hpo
  clear HR HP0 HH hq hg hpo
  by_cases hcl:e.txt p.at_=cl
  ·rw[if_pos hcl]at hRL
   rw[decide_eq_true hcl,if_pos hcl]at HTK
   go_wp2_with fail
   refine HTK.out.mono ?_
   rintro r V1 ⟨rfl,hqq⟩
   have HQ1:=hide hqq
   clear hqq HTK
   go_wp2
   go_ret
   rw[← hRL]
   exact RQ.ok hp (HG.out.tr HQ1.out.2) HQ1.out.1 ⟨us,(HPO.out.rd HQ1.out.2 hPl).up HQ1.out.2.size⟩
  ·rw[if_neg hcl]at hRL
   rw[decide_eq_false hcl,if_neg hcl]at HTK
   go_wp2_with fail
   refine HTK.out.mono ?_
   rintro r V1 ⟨rfl,hqq⟩
   have HQ1:=hide hqq
   clear hqq HTK
   have HGV:=hide HQ1.out.2
   have HG2:=hide (HG.out.tr HQ1.out.2)
   by_cases hbz:btw.size=0
   ·obtain rfl:btw = ⟨#[]⟩:=ByteArray.ext (Array.size_eq_zero_iff.1 hbz)
    rw[rLq_no,if_neg (by omega)]at hRL
    go_wp2_with fail
    refine (HF.out V1 (p) HQ1.out.1 hp hn hn0).mono ?_
    rintro r V3 ⟨hg3,⟨hb3,hq3,v,rfl,⟨⟨t,a,rfl⟩,hpm⟩⟩|⟨hb3,rfl⟩⟩
    ·rw[if_neg (by omega)]at hRL
     have hgt:=hG (p)
     have hmt:=(hM (p)).top hn
     have hml:=(hM (p)).le
     have hgt':(p).at_<(st (p)).2.at_:=by
      rcases hgt with z|z
      ·omega
      ·exact z
     have HG3:=hide (HG2.out.tr hg3)
     have hPO2:=HPO.out.rd HGV.out hPl
     have hPO3:=hPO2.rd hg3 hPl
     have HPM:=hide hpm.iv
     have HOL:=hide hPO2.olt
     have hz2:V1.heap.size≤V3.heap.size:=hg3.size
     have HQ3:=hide hq3
     have HPO3:=hide hPO3
     have HO3:=hide hPO3.own
     clear hPO2 hPO3 hpm hq3 hgt
     go_wp2_with (at_builtin;refine wp_app1V rfl _ _ 96 65 rfl .nilIface 16 Tryz.underlying96 Tryz.infoPart rfl (by decide) w.heap.size _ ks.length us rfl (HO3.out.alloc _) V3.heap.size 1 (.iface t a) rfl (by simp) rfl ?l1 ?b1 ?_)
     case l1=>omega
     case b1=>(have:=HG3.out.size;simp;omega)
     intro v6 V6 ho6 hg6 hob6
     have hA:Below V3.heap.size V3 (V3.alloc (.cells #[.iface t a] 65)):=(Below.refl _ _).alloc (Nat.le_refl _) _
     have hoA:(V3.alloc (.cells #[.iface t a] 65)).ownsRow w.heap.size 65 1 (.slice la ks.length lc) ks.length us:=HO3.out.alloc _
     have hz6:V3.heap.size≤V6.heap.size:=by have:=hg6.size;simp at this;omega
     have HP6:=hide (((HPO3.out.app HPM.out rfl HOL.out HGV.out.size HG2.out.size (Nat.le_trans HGV.out.size hz2) (by simp) hA ho6 hg6 (by rw[World.size_alloc];exact hob6))).up hz6)
     have hQ6:=(HQ3.out.below hA).row hoA hPl hg6
     have HG6:=hide ((HG3.out.blw hA).row hoA (Nat.le_refl _) hg6)
     have hm6:=atQ_of hQ6
     have HQ6:=hide hQ6
     clear hA hoA ho6 hg6 hob6 hQ6
     go_wp2
     go_roundw
     case rel=>exact⟨d,_,us++[.iface t a],(st (p)).2,hRL,by omega,hmt,by omega,by omega,by simp;omega,HQ6.out,HG6.out,HP6.out⟩
     case measure=>omega
    ·rw[if_pos hb3]at hRL
     exact⟨rfl,by rw[← hRL];exact RQ.fault hb3 (Mv.refl _ _) (HG2.out.tr hg3)⟩
   ·have hbe:btw.toList.isEmpty=false:=by
     rw[List.isEmpty_eq_false_iff]
     intro g
     have:=congrArg List.length g
     rw[ByteArray.toList_eq,Array.length_toList]at this
     exact hbz this
    by_cases hk0:ks = []
    ·subst hk0
     rw[List.length_nil,rLq_first,if_neg (by omega)]at hRL
     go_wp2_with fail
     refine (HF.out V1 (p) HQ1.out.1 hp hn hn0).mono ?_
     rintro r V3 ⟨hg3,⟨hb3,hq3,v,rfl,⟨⟨t,a,rfl⟩,hpm⟩⟩|⟨hb3,rfl⟩⟩
     ·rw[if_neg (by omega)]at hRL
      have hgt:=hG (p)
      have hmt:=(hM (p)).top hn
      have hml:=(hM (p)).le
      have hgt':(p).at_<(st (p)).2.at_:=by
       rcases hgt with z|z
       ·omega
       ·exact z
      have HG3:=hide (HG2.out.tr hg3)
      have hPO2:=HPO.out.rd HGV.out hPl
      have hPO3:=hPO2.rd hg3 hPl
      have HPM:=hide hpm.iv
      have HOL:=hide hPO2.olt
      have hz2:V1.heap.size≤V3.heap.size:=hg3.size
      have HQ3:=hide hq3
      have HPO3:=hide hPO3
      have HO3:=hide hPO3.own
      clear hPO2 hPO3 hpm hq3 hgt
      go_wp2_with (at_builtin;refine wp_app1V rfl _ _ 96 65 rfl .nilIface 16 Tryz.underlying96 Tryz.infoPart rfl (by decide) w.heap.size _ 0 us rfl (HO3.out.alloc _) V3.heap.size 1 (.iface t a) rfl (by simp) rfl ?l1 ?b1 ?_)
      case l1=>omega
      case b1=>(have:=HG3.out.size;simp;omega)
      intro v6 V6 ho6 hg6 hob6
      have hA:Below V3.heap.size V3 (V3.alloc (.cells #[.iface t a] 65)):=(Below.refl _ _).alloc (Nat.le_refl _) _
      have hoA:(V3.alloc (.cells #[.iface t a] 65)).ownsRow w.heap.size 65 1 (.slice la 0 lc) 0 us:=HO3.out.alloc _
      have hz6:V3.heap.size≤V6.heap.size:=by have:=hg6.size;simp at this;omega
      have HP6:=hide (((HPO3.out.app HPM.out rfl HOL.out HGV.out.size HG2.out.size (Nat.le_trans HGV.out.size hz2) (by simp) hA ho6 hg6 (by rw[World.size_alloc];exact hob6))).up hz6)
      have hQ6:=(HQ3.out.below hA).row hoA hPl hg6
      have HG6:=hide ((HG3.out.blw hA).row hoA (Nat.le_refl _) hg6)
      have hm6:=atQ_of hQ6
      have HQ6:=hide hQ6
      clear hA hoA ho6 hg6 hob6 hQ6
      go_wp2
      go_roundw
      case rel=>exact⟨d,_,us++[.iface t a],(st (p)).2,hRL,by omega,hmt,by omega,by omega,by simp;omega,HQ6.out,HG6.out,HP6.out⟩
      case measure=>omega
     ·rw[if_pos hb3]at hRL
      exact⟨rfl,by rw[← hRL];exact RQ.fault hb3 (Mv.refl _ _) (HG2.out.tr hg3)⟩
    ·have hkn:ks.length≠0:=fun q=>hk0 (List.eq_nil_of_length_eq_zero q)
     have hkp:0<ks.length:=by omega
     rw[rLq_yes e hbz hkn]at hRL
     have hwn:=(mv_want e p btw).1
     have hwt:=hwn.top hn
     have hwl:=hwn.le
     have HWN:=hide (qwant hE btw (hbw.resolve_left hbz) HQ1.out.1 hp hn)
     clear hk0 hkn hwn
     go_wp2_with fail
     refine HWN.out.mono ?_
     rintro r V2 ⟨hg2,⟨hb2,hq2,_,rfl,rfl⟩|⟨hb2,rfl⟩⟩
     ·rw[if_neg (by omega)]at hRL
      have HGV2:=hide (HGV.out.tr hg2)
      have HG22:=hide (HG2.out.tr hg2)
      have HQ2:=hide hq2
      clear hq2
      go_wp2_with fail
      refine (HF.out V2 (e.want p btw) HQ2.out hb2 hwt (Nat.le_trans hn0 hwl)).mono ?_
      rintro r V3 ⟨hg3,⟨hb3,hq3,v,rfl,⟨⟨t,a,rfl⟩,hpm⟩⟩|⟨hb3,rfl⟩⟩
      ·rw[if_neg (by omega)]at hRL
       have hgt:=hG (e.want p btw)
       have hmt:=(hM (e.want p btw)).top hwt
       have hml:=(hM (e.want p btw)).le
       have hgt':(e.want p btw).at_<(st (e.want p btw)).2.at_:=by
        rcases hgt with z|z
        ·omega
        ·exact z
       have HG3:=hide (HG22.out.tr hg3)
       have hPO2:=HPO.out.rd HGV2.out hPl
       have hPO3:=hPO2.rd hg3 hPl
       have HPM:=hide hpm.iv
       have HOL:=hide hPO2.olt
       have hz2:V2.heap.size≤V3.heap.size:=hg3.size
       have HQ3:=hide hq3
       have HPO3:=hide hPO3
       have HO3:=hide hPO3.own
       clear hPO2 hPO3 hpm hq3 hgt
       go_wp2_with (at_builtin;refine wp_app1V rfl _ _ 96 65 rfl .nilIface 16 Tryz.underlying96 Tryz.infoPart rfl (by decide) w.heap.size _ ks.length us rfl (HO3.out.alloc _) V3.heap.size 1 (.iface t a) rfl (by simp) rfl ?l1 ?b1 ?_)
       case l1=>omega
       case b1=>(have:=HG3.out.size;simp;omega)
       intro v6 V6 ho6 hg6 hob6
       have hA:Below V3.heap.size V3 (V3.alloc (.cells #[.iface t a] 65)):=(Below.refl _ _).alloc (Nat.le_refl _) _
       have hoA:(V3.alloc (.cells #[.iface t a] 65)).ownsRow w.heap.size 65 1 (.slice la ks.length lc) ks.length us:=HO3.out.alloc _
       have hz6:V3.heap.size≤V6.heap.size:=by have:=hg6.size;simp at this;omega
       have HP6:=hide (((HPO3.out.app HPM.out rfl HOL.out HGV2.out.size HG22.out.size (Nat.le_trans HGV2.out.size hz2) (by simp) hA ho6 hg6 (by rw[World.size_alloc];exact hob6))).up hz6)
       have hQ6:=(HQ3.out.below hA).row hoA hPl hg6
       have HG6:=hide ((HG3.out.blw hA).row hoA (Nat.le_refl _) hg6)
       have hm6:=atQ_of hQ6
       have HQ6:=hide hQ6
       clear hA hoA ho6 hg6 hob6 hQ6
       go_wp2
       go_roundw
       case rel=>exact⟨d,_,us++[.iface t a],(st (e.want p btw)).2,hRL,by omega,hmt,by omega,by omega,by simp;omega,HQ6.out,HG6.out,HP6.out⟩
       case measure=>omega
      ·rw[if_pos hb3]at hRL
       exact⟨rfl,by rw[← hRL];exact RQ.fault hb3 (Mv.refl _ _) (HG22.out.tr hg3)⟩
     ·rw[if_pos hb2]at hRL
      exact⟨rfl,by rw[← hRL];exact RQ.fault hb2 (Mv.refl _ _) (HG2.out.tr hg2)⟩
end Go.Proofs.YtbiakdjpeblclaaGreatDoor

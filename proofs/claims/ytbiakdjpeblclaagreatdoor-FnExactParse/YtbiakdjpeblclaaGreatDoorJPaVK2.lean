/-
  The walks of validCount, mayStand.
-/
import Derived.Test.YtbiakdjpeblclaaGreatDoorJPaLX
import Derived.Test.YtbiakdjpeblclaaGreatDoorJPaT
import Derived.Test.YtbiakdjpeblclaaGreatDoorJPaRH
namespace Go.Proofs.YtbiakdjpeblclaaGreatDoor
open Go.RowKit
def vCnt (k c:Int):Bool:=
 if k=0∨k=2 then decide (0≤c) else if k=1∨k=3∨k=21∨k=22 then c==1 else if k=4 then decide (0≤c)&&decide (c≤10)
 else if k=5∨k=14∨k=15 then c==3 else if k=6 then c==2||c==3 else if k=7∨k=11∨k=12∨k=20 then c==2
 else if k=8∨k=9∨k=10 then c==2||c==4 else if k=13 then c==3||c==5 else if k=16∨k=17∨k=18∨k=19 then c==0 else false
theorem vCnt_none (k c:Int)(h:k<0∨22<k):vCnt k c=false:=by
 unfold vCnt
 rw[if_neg (by omega),if_neg (by omega),if_neg (by omega),if_neg (by omega),if_neg (by omega),if_neg (by omega),if_neg (by omega),if_neg (by omega),if_neg (by omega)]
set_option maxHeartbeats 4000000 in
set_option maxRecDepth 1000000 in
theorem validCount_any (k c:Int)(w:World):Calls Tryz.prog 89 #[.int .i64 k,.int .i64 c] w fun e w'=>e = .returned (.bool (vCnt k c))∧w'=w:=by
 have hc:c=2∨c=3∨(c≠2∧c≠3∧0≤c)∨(c≠2∧c≠3∧c<0):=by omega
 rcases hc with rfl|rfl|⟨h1,h2,h3⟩|⟨h1,h2,h3⟩
 ·rcases kinds k with h|h
  ·rcases h with rfl|rfl|rfl|rfl|rfl|rfl|rfl|rfl|rfl|rfl|rfl|rfl|rfl|rfl|rfl|rfl|rfl|rfl|rfl|rfl|rfl|rfl|rfl
   all_goals
    go_enter Tryz.func89,Tryz.ntmps89
    go_wp2
    go_ret
    exact⟨by rfl,by trivial⟩
  ·have HF:Hid (vCnt k 2=false):=vCnt_none k _ h
   have n0:(k==0)=false:=by rw[beq_eq_false_iff_ne];omega
   have n1:(k==1)=false:=by rw[beq_eq_false_iff_ne];omega
   have n2:(k==2)=false:=by rw[beq_eq_false_iff_ne];omega
   have n3:(k==3)=false:=by rw[beq_eq_false_iff_ne];omega
   have n4:(k==4)=false:=by rw[beq_eq_false_iff_ne];omega
   have n5:(k==5)=false:=by rw[beq_eq_false_iff_ne];omega
   have n6:(k==6)=false:=by rw[beq_eq_false_iff_ne];omega
   have n7:(k==7)=false:=by rw[beq_eq_false_iff_ne];omega
   have n8:(k==8)=false:=by rw[beq_eq_false_iff_ne];omega
   have n9:(k==9)=false:=by rw[beq_eq_false_iff_ne];omega
   have n10:(k==10)=false:=by rw[beq_eq_false_iff_ne];omega
   have n11:(k==11)=false:=by rw[beq_eq_false_iff_ne];omega
   have n12:(k==12)=false:=by rw[beq_eq_false_iff_ne];omega
   have n13:(k==13)=false:=by rw[beq_eq_false_iff_ne];omega
   have n14:(k==14)=false:=by rw[beq_eq_false_iff_ne];omega
   have n15:(k==15)=false:=by rw[beq_eq_false_iff_ne];omega
   have n16:(k==16)=false:=by rw[beq_eq_false_iff_ne];omega
   have n17:(k==17)=false:=by rw[beq_eq_false_iff_ne];omega
   have n18:(k==18)=false:=by rw[beq_eq_false_iff_ne];omega
   have n19:(k==19)=false:=by rw[beq_eq_false_iff_ne];omega
   have n20:(k==20)=false:=by rw[beq_eq_false_iff_ne];omega
   have n21:(k==21)=false:=by rw[beq_eq_false_iff_ne];omega
   have n22:(k==22)=false:=by rw[beq_eq_false_iff_ne];omega
   clear h
   go_enter Tryz.func89,Tryz.ntmps89
   go_wp2
   go_ret
   exact⟨by rw[HF.out];rfl,by trivial⟩
 ·rcases kinds k with h|h
  ·rcases h with rfl|rfl|rfl|rfl|rfl|rfl|rfl|rfl|rfl|rfl|rfl|rfl|rfl|rfl|rfl|rfl|rfl|rfl|rfl|rfl|rfl|rfl|rfl
   all_goals
    go_enter Tryz.func89,Tryz.ntmps89
    go_wp2
    go_ret
    exact⟨by rfl,by trivial⟩
  ·have HF:Hid (vCnt k 3=false):=vCnt_none k _ h
   have n0:(k==0)=false:=by rw[beq_eq_false_iff_ne];omega
   have n1:(k==1)=false:=by rw[beq_eq_false_iff_ne];omega
   have n2:(k==2)=false:=by rw[beq_eq_false_iff_ne];omega
   have n3:(k==3)=false:=by rw[beq_eq_false_iff_ne];omega
   have n4:(k==4)=false:=by rw[beq_eq_false_iff_ne];omega
   have n5:(k==5)=false:=by rw[beq_eq_false_iff_ne];omega
   have n6:(k==6)=false:=by rw[beq_eq_false_iff_ne];omega
   have n7:(k==7)=false:=by rw[beq_eq_false_iff_ne];omega
   have n8:(k==8)=false:=by rw[beq_eq_false_iff_ne];omega
   have n9:(k==9)=false:=by rw[beq_eq_false_iff_ne];omega
   have n10:(k==10)=false:=by rw[beq_eq_false_iff_ne];omega
   have n11:(k==11)=false:=by rw[beq_eq_false_iff_ne];omega
   have n12:(k==12)=false:=by rw[beq_eq_false_iff_ne];omega
   have n13:(k==13)=false:=by rw[beq_eq_false_iff_ne];omega
   have n14:(k==14)=false:=by rw[beq_eq_false_iff_ne];omega
   have n15:(k==15)=false:=by rw[beq_eq_false_iff_ne];omega
   have n16:(k==16)=false:=by rw[beq_eq_false_iff_ne];omega
   have n17:(k==17)=false:=by rw[beq_eq_false_iff_ne];omega
   have n18:(k==18)=false:=by rw[beq_eq_false_iff_ne];omega
   have n19:(k==19)=false:=by rw[beq_eq_false_iff_ne];omega
   have n20:(k==20)=false:=by rw[beq_eq_false_iff_ne];omega
   have n21:(k==21)=false:=by rw[beq_eq_false_iff_ne];omega
   have n22:(k==22)=false:=by rw[beq_eq_false_iff_ne];omega
   clear h
   go_enter Tryz.func89,Tryz.ntmps89
   go_wp2
   go_ret
   exact⟨by rw[HF.out];rfl,by trivial⟩
 ·have e1:(c==2)=false:=by rw[beq_eq_false_iff_ne];exact h1
  have e2:(c==3)=false:=by rw[beq_eq_false_iff_ne];exact h2
  have e3:decide ((0:Int)≤c)=true:=decide_eq_true h3
  have HV:=hide (show vCnt k c=_ by unfold vCnt;simp only[e1,e2,e3,Bool.false_or,Bool.true_and];rfl)
  clear h1 h2 h3
  rcases kinds k with h|h
  ·rcases h with rfl|rfl|rfl|rfl|rfl|rfl|rfl|rfl|rfl|rfl|rfl|rfl|rfl|rfl|rfl|rfl|rfl|rfl|rfl|rfl|rfl|rfl|rfl
   all_goals
    go_enter Tryz.func89,Tryz.ntmps89
    go_wp2
    go_ret
    exact⟨by rw[HV.out];rfl,by trivial⟩
  ·have HF:Hid (vCnt k c=false):=vCnt_none k _ h
   have n0:(k==0)=false:=by rw[beq_eq_false_iff_ne];omega
   have n1:(k==1)=false:=by rw[beq_eq_false_iff_ne];omega
   have n2:(k==2)=false:=by rw[beq_eq_false_iff_ne];omega
   have n3:(k==3)=false:=by rw[beq_eq_false_iff_ne];omega
   have n4:(k==4)=false:=by rw[beq_eq_false_iff_ne];omega
   have n5:(k==5)=false:=by rw[beq_eq_false_iff_ne];omega
   have n6:(k==6)=false:=by rw[beq_eq_false_iff_ne];omega
   have n7:(k==7)=false:=by rw[beq_eq_false_iff_ne];omega
   have n8:(k==8)=false:=by rw[beq_eq_false_iff_ne];omega
   have n9:(k==9)=false:=by rw[beq_eq_false_iff_ne];omega
   have n10:(k==10)=false:=by rw[beq_eq_false_iff_ne];omega
   have n11:(k==11)=false:=by rw[beq_eq_false_iff_ne];omega
   have n12:(k==12)=false:=by rw[beq_eq_false_iff_ne];omega
   have n13:(k==13)=false:=by rw[beq_eq_false_iff_ne];omega
   have n14:(k==14)=false:=by rw[beq_eq_false_iff_ne];omega
   have n15:(k==15)=false:=by rw[beq_eq_false_iff_ne];omega
   have n16:(k==16)=false:=by rw[beq_eq_false_iff_ne];omega
   have n17:(k==17)=false:=by rw[beq_eq_false_iff_ne];omega
   have n18:(k==18)=false:=by rw[beq_eq_false_iff_ne];omega
   have n19:(k==19)=false:=by rw[beq_eq_false_iff_ne];omega
   have n20:(k==20)=false:=by rw[beq_eq_false_iff_ne];omega
   have n21:(k==21)=false:=by rw[beq_eq_false_iff_ne];omega
   have n22:(k==22)=false:=by rw[beq_eq_false_iff_ne];omega
   clear h
   go_enter Tryz.func89,Tryz.ntmps89
   go_wp2
   go_ret
   exact⟨by rw[HF.out];rfl,by trivial⟩
 ·have e1:(c==2)=false:=by rw[beq_eq_false_iff_ne];exact h1
  have e2:(c==3)=false:=by rw[beq_eq_false_iff_ne];exact h2
  have e3:decide ((0:Int)≤c)=false:=decide_eq_false (by omega)
  have HV:=hide (show vCnt k c=_ by unfold vCnt;simp only[e1,e2,e3,Bool.false_or,Bool.false_and];rfl)
  clear h1 h2 h3
  rcases kinds k with h|h
  ·rcases h with rfl|rfl|rfl|rfl|rfl|rfl|rfl|rfl|rfl|rfl|rfl|rfl|rfl|rfl|rfl|rfl|rfl|rfl|rfl|rfl|rfl|rfl|rfl
   all_goals
    go_enter Tryz.func89,Tryz.ntmps89
    go_wp2
    go_ret
    exact⟨by rw[HV.out];rfl,by trivial⟩
  ·have HF:Hid (vCnt k c=false):=vCnt_none k _ h
   have n0:(k==0)=false:=by rw[beq_eq_false_iff_ne];omega
   have n1:(k==1)=false:=by rw[beq_eq_false_iff_ne];omega
   have n2:(k==2)=false:=by rw[beq_eq_false_iff_ne];omega
   have n3:(k==3)=false:=by rw[beq_eq_false_iff_ne];omega
   have n4:(k==4)=false:=by rw[beq_eq_false_iff_ne];omega
   have n5:(k==5)=false:=by rw[beq_eq_false_iff_ne];omega
   have n6:(k==6)=false:=by rw[beq_eq_false_iff_ne];omega
   have n7:(k==7)=false:=by rw[beq_eq_false_iff_ne];omega
   have n8:(k==8)=false:=by rw[beq_eq_false_iff_ne];omega
   have n9:(k==9)=false:=by rw[beq_eq_false_iff_ne];omega
   have n10:(k==10)=false:=by rw[beq_eq_false_iff_ne];omega
   have n11:(k==11)=false:=by rw[beq_eq_false_iff_ne];omega
   have n12:(k==12)=false:=by rw[beq_eq_false_iff_ne];omega
   have n13:(k==13)=false:=by rw[beq_eq_false_iff_ne];omega
   have n14:(k==14)=false:=by rw[beq_eq_false_iff_ne];omega
   have n15:(k==15)=false:=by rw[beq_eq_false_iff_ne];omega
   have n16:(k==16)=false:=by rw[beq_eq_false_iff_ne];omega
   have n17:(k==17)=false:=by rw[beq_eq_false_iff_ne];omega
   have n18:(k==18)=false:=by rw[beq_eq_false_iff_ne];omega
   have n19:(k==19)=false:=by rw[beq_eq_false_iff_ne];omega
   have n20:(k==20)=false:=by rw[beq_eq_false_iff_ne];omega
   have n21:(k==21)=false:=by rw[beq_eq_false_iff_ne];omega
   have n22:(k==22)=false:=by rw[beq_eq_false_iff_ne];omega
   clear h
   go_enter Tryz.func89,Tryz.ntmps89
   go_wp2
   go_ret
   exact⟨by rw[HF.out];rfl,by trivial⟩
def mSt (p i k:Int):Bool:=
 if p=0 then k==1||isStat k else if p=2 then isStat k else if p=1 then k==2 else if p=5∧i=2 then k==2
 else if p=6∧0<i then k==2||(i==2&&k==6) else isExpr k
set_option maxHeartbeats 2000000 in
set_option maxRecDepth 1000000 in
theorem mayStand_any (p i k:Int)(w:World):Calls Tryz.prog 90 #[.int .i64 p,.int .i64 i,.int .i64 k] w fun e w'=>e = .returned (.bool (mSt p i k))∧w'=w:=by
 have HE:=hide (fun w=>implExpr_any k w)
 have HS:=hide (fun w=>implStat_any k w)
 obtain⟨E,hE⟩:∃E,isExpr k=E:=⟨_,rfl⟩
 obtain⟨S,hS⟩:∃S,isStat k=S:=⟨_,rfl⟩
 simp only[hE]at HE
 simp only[hS]at HS
 by_cases p0:p=0
 ·subst p0
  by_cases k1:k=1
  ·have HM:Hid (mSt 0 i k=true):=by show _=_;unfold mSt;rw[if_pos rfl,k1];rfl
   have e1:(k==1)=true:=by rw[beq_iff_eq];exact k1
   clear k1
   go_enter Tryz.func90,Tryz.ntmps90
   go_wp2
   go_ret
   exact⟨by rw[HM.out];rfl,by trivial⟩
  ·have e1:(k==1)=false:=by rw[beq_eq_false_iff_ne];exact k1
   have HM:Hid (mSt 0 i k=S):=by show _=_;unfold mSt;rw[if_pos rfl,e1,hS];rfl
   clear k1
   go_enter Tryz.func90,Tryz.ntmps90
   go_wp2_with (go_at_call 125;refine (HS.out _).mono ?_;rintro e w1 ⟨rfl,rfl⟩)
   go_ret
   exact⟨by rw[HM.out];rfl,by trivial⟩
 by_cases p2:p=2
 ·subst p2
  have HM:Hid (mSt 2 i k=S):=by show _=_;unfold mSt;rw[if_neg (by omega),if_pos rfl,hS]
  go_enter Tryz.func90,Tryz.ntmps90
  go_wp2_with (go_at_call 125;refine (HS.out _).mono ?_;rintro e w1 ⟨rfl,rfl⟩)
  go_ret
  exact⟨by rw[HM.out];rfl,by trivial⟩
 by_cases p1:p=1
 ·subst p1
  have HM:Hid (mSt 1 i k=(k==2)):=by show _=_;unfold mSt;rw[if_neg (by omega),if_neg (by omega),if_pos rfl]
  go_enter Tryz.func90,Tryz.ntmps90
  go_wp2
  go_ret
  exact⟨by rw[HM.out];rfl,by trivial⟩
 by_cases p5:p=5
 ·subst p5
  by_cases i2:i=2
  ·subst i2
   have HM:Hid (mSt 5 2 k=(k==2)):=by show _=_;unfold mSt;rw[if_neg (by omega),if_neg (by omega),if_neg (by omega),if_pos ⟨rfl,rfl⟩]
   go_enter Tryz.func90,Tryz.ntmps90
   go_wp2
   go_ret
   exact⟨by rw[HM.out];rfl,by trivial⟩
  ·have e1:(i==2)=false:=by rw[beq_eq_false_iff_ne];exact i2
   have HM:Hid (mSt 5 i k=E):=by show _=_;unfold mSt;rw[if_neg (by omega),if_neg (by omega),if_neg (by omega),if_neg (by omega),if_neg (by omega),hE]
   clear i2
   go_enter Tryz.func90,Tryz.ntmps90
   go_wp2_with (go_at_call 126;refine (HE.out _).mono ?_;rintro e w1 ⟨rfl,rfl⟩)
   go_ret
   exact⟨by rw[HM.out];rfl,by trivial⟩
 by_cases p6:p=6
 ·subst p6
  by_cases i0:0<i
  ·have d0:decide ((0:Int)<i)=true:=decide_eq_true i0
   by_cases k2:k=2
   ·have e1:(k==2)=true:=by rw[beq_iff_eq];exact k2
    have HM:Hid (mSt 6 i k=true):=by show _=_;unfold mSt;rw[if_neg (by omega),if_neg (by omega),if_neg (by omega),if_neg (by omega),if_pos ⟨rfl,i0⟩,e1];rfl
    clear k2
    go_enter Tryz.func90,Tryz.ntmps90
    go_wp2
    go_ret
    exact⟨by rw[HM.out];rfl,by trivial⟩
   ·have e1:(k==2)=false:=by rw[beq_eq_false_iff_ne];exact k2
    by_cases i2:i=2
    ·subst i2
     have HM:Hid (mSt 6 2 k=(k==6)):=by show _=_;unfold mSt;rw[if_neg (by omega),if_neg (by omega),if_neg (by omega),if_neg (by omega),if_pos ⟨rfl,i0⟩,e1];rfl
     clear k2
     go_enter Tryz.func90,Tryz.ntmps90
     go_wp2
     go_ret
     exact⟨by rw[HM.out];rfl,by trivial⟩
    ·have e2:(i==2)=false:=by rw[beq_eq_false_iff_ne];exact i2
     have HM:Hid (mSt 6 i k=false):=by show _=_;unfold mSt;rw[if_neg (by omega),if_neg (by omega),if_neg (by omega),if_neg (by omega),if_pos ⟨rfl,i0⟩,e1,e2];rfl
     clear k2 i2
     go_enter Tryz.func90,Tryz.ntmps90
     go_wp2
     go_ret
     exact⟨by rw[HM.out];rfl,by trivial⟩
  ·have d0:decide ((0:Int)<i)=false:=decide_eq_false i0
   have HM:Hid (mSt 6 i k=E):=by show _=_;unfold mSt;rw[if_neg (by omega),if_neg (by omega),if_neg (by omega),if_neg (by omega),if_neg (by omega),hE]
   go_enter Tryz.func90,Tryz.ntmps90
   go_wp2_with (go_at_call 126;refine (HE.out _).mono ?_;rintro e w1 ⟨rfl,rfl⟩)
   go_ret
   exact⟨by rw[HM.out];rfl,by trivial⟩
 ·have HM:Hid (mSt p i k=E):=by show _=_;unfold mSt;rw[if_neg (by omega),if_neg (by omega),if_neg (by omega),if_neg (by omega),if_neg (by omega),hE]
  have n0:(p==0)=false:=by rw[beq_eq_false_iff_ne];omega
  have n1:(p==1)=false:=by rw[beq_eq_false_iff_ne];omega
  have n2:(p==2)=false:=by rw[beq_eq_false_iff_ne];omega
  have n5:(p==5)=false:=by rw[beq_eq_false_iff_ne];omega
  have n6:(p==6)=false:=by rw[beq_eq_false_iff_ne];omega
  clear p0 p1 p2 p5 p6
  go_enter Tryz.func90,Tryz.ntmps90
  go_wp2_with (go_at_call 126;refine (HE.out _).mono ?_;rintro e w1 ⟨rfl,rfl⟩)
  go_ret
  exact⟨by rw[HM.out];rfl,by trivial⟩
end Go.Proofs.YtbiakdjpeblclaaGreatDoor
namespace Go.Proofs.YtbiakdjpeblclaaGreatDoor
def bLoop (n:Nat)(st:Nat→Nat→Nat→Bool)(g:Nat→Nat)(p:Nat):Nat→Nat→Nat→Nat
 |0,_,e=>e
 |c+1,i,e=>if e=n then 0 else if st p i e=true then (if g e=0 then 0 else bLoop n st g p c (i+1) (g e)) else 0
def bE (n:Nat)(cnt:Nat→Int)(ok:Nat→Bool)(st:Nat→Nat→Nat→Bool):Nat→Nat→Nat
 |0,_=>0
 |f+1,i=>if ok i=true then bLoop n st (bE n cnt ok st f) i (cnt i).toNat 0 (i+1) else 0
def sLoop (g:Nat→Option Nat):Nat→Nat→Option Nat
 |0,e=>some e
 |c+1,e=>match g e with
  |none=>none
  |some a=>sLoop g c a
def sE (n:Nat)(cnt:Nat→Int):Nat→Nat→Option Nat
 |0,_=>none
 |f+1,i=>if n≤i∨cnt i<0∨(n:Int)<cnt i then none else sLoop (sE n cnt f) (cnt i).toNat (i+1)
def nxT (n:Nat)(cnt:Nat→Int)(i:Nat):Nat:=(sE n cnt 60 i).getD 0
def gLoop (nxT:Nat→Nat)(st:Nat→Nat→Nat→Bool)(g:Nat→Bool)(p:Nat):Nat→Nat→Nat→Bool
 |0,_,_=>true
 |c+1,i,e=>st p i e&&(g e&&gLoop nxT st g p c (i+1) (nxT e))
def sG (n:Nat)(cnt:Nat→Int)(ok:Nat→Bool)(st:Nat→Nat→Nat→Bool):Nat→Nat→Bool
 |0,_=>false
 |f+1,i=>ok i&&gLoop (nxT n cnt) st (sG n cnt ok st f) i (cnt i).toNat 0 (i+1)
def sm (cnt:Nat→Int):Nat→Nat→Int
 |_,0=>0
 |a,l+1=>(cnt a - 1)+sm cnt (a+1) l
theorem sm_add (cnt:Nat→Int)(a l m:Nat):sm cnt a (l+m)=sm cnt a l+sm cnt (a+l) m:=by
 induction l generalizing a with
 |zero=>simp[sm]
 |succ l ih=>rw[show l+1+m=(l+m)+1 by omega];simp only[sm];rw[ih,show a+1+l=a+(l+1) by omega];omega
theorem sm_succ (cnt:Nat→Int)(a l:Nat):sm cnt a (l+1)=sm cnt a l+(cnt (a+l) - 1):=by
 rw[sm_add];simp[sm]
theorem sLoop_mono {g g':Nat→Option Nat}(h:∀i e,g i=some e→g' i=some e):∀c i e,sLoop g c i=some e→sLoop g' c i=some e:=by
 intro c
 induction c with
 |zero=>intro i e he;exact he
 |succ c ih=>
  intro i e he
  simp only[sLoop]at he ⊢
  cases hg:g i with
  |none=>rw[hg]at he;cases he
  |some a=>rw[hg]at he;rw[h i a hg];exact ih a e he
theorem sE_step (n:Nat)(cnt:Nat→Int):∀f i e,sE n cnt f i=some e→sE n cnt (f+1) i=some e:=by
 intro f
 induction f with
 |zero=>intro i e he;cases he
 |succ f ih=>
  intro i e he
  rw[sE]at he ⊢
  split at he
  ·cases he
  ·rename_i hc
   rw[if_neg hc];exact sLoop_mono ih _ _ _ he
theorem sE_mono (n:Nat)(cnt:Nat→Int){f f':Nat}(hf:f≤f'){i e:Nat}(h:sE n cnt f i=some e):sE n cnt f' i=some e:=by
 induction hf with
 |refl=>exact h
 |step _ ih=>exact sE_step n cnt _ _ _ ih
theorem nx_of {n:Nat}{cnt:Nat→Int}{f:Nat}(hf:f≤60){i e:Nat}(h:sE n cnt f i=some e):nxT n cnt i=e:=by
 unfold nxT;rw[sE_mono n cnt hf h];rfl
structure Br (n:Nat)(cnt:Nat→Int)(i e:Nat):Prop where
 lt:i<e
 le:e≤n
 tot:sm cnt i (e - i) = -1
 pos:∀l,0<l→l<e - i→0≤sm cnt i l
 cn:∀j,i≤j→j<e→0≤cnt j∧cnt j≤n
theorem br_loop {n:Nat}{cnt:Nat→Int}{g:Nat→Option Nat}(hg:∀i e,g i=some e→Br n cnt i e):∀c a e,a≤n→sLoop g c a=some e→
 a≤e∧e≤n∧sm cnt a (e - a) = -(c:Int)∧(∀l,l<e - a→ -(c:Int)<sm cnt a l)∧(∀j,a≤j→j<e→0≤cnt j∧cnt j≤n):=by
 intro c
 induction c with
 |zero=>
  intro a e ha h
  obtain rfl:=Option.some.inj h
  refine⟨Nat.le_refl _,ha,by rw[Nat.sub_self];rfl,fun l hl=>by omega,fun j h1 h2=>by omega⟩
 |succ c ih=>
  intro a e ha h
  simp only[sLoop]at h
  cases hga:g a with
  |none=>rw[hga]at h;cases h
  |some b=>
   rw[hga]at h
   have hb:=hg a b hga
   obtain⟨h1,h2,h3,h4,h5⟩:=ih b e hb.le h
   have hlt:=hb.lt
   refine⟨by omega,h2,?_,?_,?_⟩
   ·rw[show e - a=(b - a)+(e - b) by omega,sm_add,hb.tot,show a+(b - a)=b by omega,h3];omega
   ·intro l hl
    by_cases c1:l<b - a
    ·by_cases c0:l=0
     ·subst c0;simp only[sm];omega
     ·have:=hb.pos l (by omega) c1;omega
    ·have:=h4 (l - (b - a)) (by omega)
     rw[show l=(b - a)+(l - (b - a)) by omega,sm_add,hb.tot,show a+(b - a)=b by omega];omega
   ·intro j j1 j2
    by_cases c1:j<b
    ·exact hb.cn j j1 c1
    ·exact h5 j (by omega) j2
theorem sE_br (n:Nat)(cnt:Nat→Int):∀f i e,sE n cnt f i=some e→Br n cnt i e:=by
 intro f
 induction f with
 |zero=>intro i e h;cases h
 |succ f ih=>
  intro i e h
  rw[sE]at h
  split at h
  ·cases h
  ·rename_i hc
   obtain⟨h1,h2,h3,h4,h5⟩:=br_loop ih _ (i+1) e (by omega) h
   have hcn:(((cnt i).toNat:Nat):Int)=cnt i:=Int.toNat_of_nonneg (by omega)
   rw[hcn]at h3 h4
   refine⟨by omega,h2,?_,?_,?_⟩
   ·rw[show e - i=(e - (i+1))+1 by omega];simp only[sm];rw[h3];omega
   ·intro l l0 hl
    obtain⟨m,rfl⟩:∃m,l=m+1:=⟨l - 1,by omega⟩
    simp only[sm]
    have:=h4 m (by omega);omega
   ·intro j j1 j2
    by_cases c1:j=i
    ·subst c1;omega
    ·exact h5 j (by omega) j2
theorem sLoop_ge {g:Nat→Option Nat}(hg:∀i e,g i=some e→i<e):∀c a e,sLoop g c a=some e→a+c≤e:=by
 intro c
 induction c with
 |zero=>intro a e h;obtain rfl:=Option.some.inj h;omega
 |succ c ih=>
  intro a e h
  simp only[sLoop]at h
  cases hga:g a with
  |none=>rw[hga]at h;cases h
  |some b=>rw[hga]at h;have:=ih b e h;have:=hg a b hga;omega
theorem bE_sE {n:Nat}{cnt:Nat→Int}{ok:Nat→Bool}{st:Nat→Nat→Nat→Bool}(hok:∀i,ok i=true→0≤cnt i):
 ∀f,f≤60→∀i e,i<n→e≠0→(bE n cnt ok st f i=e↔sE n cnt f i=some e∧sG n cnt ok st f i=true):=by
 intro f
 induction f with
 |zero=>intro _ i e _ he;simp[bE,sE];omega
 |succ f ih=>
  intro hf i e hi he
  have ih:=ih (by omega)
  have hL:∀c k a,a≤n→a≠0→(bLoop n st (bE n cnt ok st f) i c k a=e↔sLoop (sE n cnt f) c a=some e∧gLoop (nxT n cnt) st (sG n cnt ok st f) i c k a=true):=by
   intro c
   induction c with
   |zero=>intro k a ha ha0;simp[bLoop,sLoop,gLoop]
   |succ c ihc=>
    intro k a ha ha0
    simp only[bLoop,sLoop,gLoop]
    by_cases c1:a=n
    ·rw[if_pos c1]
     have:sE n cnt f a=none:=by
      cases f with
      |zero=>rfl
      |succ f=>rw[sE,if_pos (by omega)]
     rw[this];simp;omega
    ·rw[if_neg c1]
     by_cases c2:st i k a=true
     ·rw[if_pos c2,c2,Bool.true_and]
      by_cases c3:bE n cnt ok st f a=0
      ·rw[if_pos c3]
       constructor
       ·intro h;omega
       ·rintro⟨h1,h2⟩
        cases hs:sE n cnt f a with
        |none=>rw[hs]at h1;cases h1
        |some b=>
         rw[Bool.and_eq_true]at h2
         have hb:=(sE_br n cnt f a b hs).lt
         have:=(ih a b (by omega) (by omega)).2 ⟨hs,h2.1⟩
         omega
      ·rw[if_neg c3]
       obtain⟨h1,h2⟩:=(ih a _ (by omega) c3).1 rfl
       rw[h1,h2,Bool.true_and]
       have hb:=sE_br n cnt f a _ h1
       rw[nx_of (by omega) h1]
       exact ihc (k+1) _ hb.le c3
     ·rw[if_neg c2]
      simp[c2];omega
  simp only[bE,sG]
  rw[sE]
  by_cases c1:ok i=true
  ·rw[if_pos c1,c1,Bool.true_and]
   have h0:=hok i c1
   rw[hL _ 0 (i+1) (by omega) (by omega)]
   by_cases c2:n≤i∨cnt i<0∨(n:Int)<cnt i
   ·rw[if_pos c2]
    constructor
    ·rintro⟨h1,_⟩
     have h3:=br_loop (sE_br n cnt f) _ _ _ (by omega) h1
     have h4:=sLoop_ge (fun i e h=>(sE_br n cnt f i e h).lt) _ _ _ h1
     omega
    ·rintro⟨h1,_⟩;cases h1
   ·rw[if_neg c2]
  ·rw[if_neg c1];simp[c1];omega
end Go.Proofs.YtbiakdjpeblclaaGreatDoor
namespace Go.Proofs.YtbiakdjpeblclaaGreatDoor
open Go.RowKit
def cn (L:List Nd)(i:Nat):Int:=(L.getD i .zero).count
def oi : Option Nat→Int
 |none=> -1
 |some e=>e
set_option maxHeartbeats 1000000 in
set_option maxRecDepth 1000000 in
theorem l2end_any (v:Value)(L:List Nd)(hl:L.length≤1048576):∀f:Nat,f≤60→∀(i:Nat) (w:World),i≤L.length→NS w v L→
 Calls Tryz.prog 45 #[v,.int .i64 i,.int .i64 f] w fun e w'=>e = .returned (.int .i64 (oi (sE L.length (cn L) f i)))∧w'=w:=by
 intro f
 induction f with
 |zero=>
  intro _ i w hi h
  obtain⟨a,b,o,c,rfl,_,_⟩:=h
  have HR:Hid (oi (sE L.length (cn L) 0 i) = -1):=rfl
  by_cases h1:i<L.length
  ·have t0:decide ((L.length:Int)≤(i:Int))=false:=decide_eq_false (by omega)
   go_enter Tryz.func45,Tryz.ntmps45
   go_wp2
   go_ret
   exact⟨by rw[HR.out];rfl,by trivial⟩
  ·have t0:decide ((L.length:Int)≤(i:Int))=true:=decide_eq_true (by omega)
   go_enter Tryz.func45,Tryz.ntmps45
   go_wp2
   go_ret
   exact⟨by rw[HR.out];rfl,by trivial⟩
 |succ f ih=>
  intro hf i w hi h
  have HIH:=hide (ih (by omega))
  have HNS:=hide h
  obtain⟨a,b,o,c,rfl,ha,hc⟩:=h
  have hf1:((f:Int)+1==0)=false:=by rw[beq_eq_false_iff_ne];omega
  by_cases h1:i<L.length
  ·have t0:decide ((L.length:Int)≤(i:Int))=false:=decide_eq_false (by omega)
   obtain rfl:=ha (by omega)
   obtain⟨vt,vn,vy,hN,_⟩:=hc i h1
   have g:=hN.count
   obtain⟨C,hC⟩:∃C,(L.getD i .zero).count=C:=⟨_,rfl⟩
   have hcC:cn L i=C:=hC
   rw[hC]at g
   clear hc ha hN hC ih
   by_cases h2:C<0
   ·have t1:decide (C<0)=true:=decide_eq_true h2
    have HR:Hid (oi (sE L.length (cn L) (f+1) i) = -1):=by show _=_;rw[sE,if_pos (by omega)];rfl
    go_enter Tryz.func45,Tryz.ntmps45
    go_wp2
    go_ret
    exact⟨by rw[HR.out];rfl,by trivial⟩
   by_cases h3:(L.length:Int)<C
   ·have t1:decide (C<0)=false:=decide_eq_false h2
    have t2:decide ((L.length:Int)<C)=true:=decide_eq_true h3
    have HR:Hid (oi (sE L.length (cn L) (f+1) i) = -1):=by show _=_;rw[sE,if_pos (by omega)];rfl
    go_enter Tryz.func45,Tryz.ntmps45
    go_wp2
    go_ret
    exact⟨by rw[HR.out];rfl,by trivial⟩
   have t1:decide (C<0)=false:=decide_eq_false h2
   have t2:decide ((L.length:Int)<C)=false:=decide_eq_false h3
   have HR:Hid (sE L.length (cn L) (f+1) i=sLoop (sE L.length (cn L) f) C.toNat (i+1)):=by show _=_;rw[sE,if_neg (by omega),hcC]
   clear hcC
   go_enter Tryz.func45,Tryz.ntmps45
   go_wp2
   go_loopw [7,8] (fun x ix wr=>∃k p:Nat,k≤C.toNat∧ix = .int .i64 k∧x = .int .i64 p∧p≤L.length∧sLoop (sE L.length (cn L) f) (C.toNat - k) p=sE L.length (cn L) (f+1) i∧wr=w) (fun _ ix _=>C.toNat - (intOf ix).toNat)
   case atStart=>exact⟨0,i+1,Nat.zero_le _,rfl,by go_num,by omega,HR.out.symm,rfl⟩
   case round=>
    obtain⟨k,p,hk,rfl,rfl,hp,hs,rfl⟩:=hrel
    have HS:=hide hs
    by_cases hlt:k<C.toNat
    ·have hlti:decide ((k:Int)<C)=true:=decide_eq_true (by omega)
     have HI:=HIH.out p wr hp HNS.out
     have hsp:C.toNat - k=(C.toNat - (k+1))+1:=by omega
     rw[hsp,sLoop]at hs
     cases hx:sE L.length (cn L) f p with
     |none=>
      rw[hx]at HI hs
      have HH:=hide HI
      have HR2:Hid (oi (sE L.length (cn L) (f+1) i) = -1):=by show _=_;rw[← hs];rfl
      clear HI hs hx
      go_wp2_with fail
      refine HH.out.mono ?_
      rintro e w1 ⟨rfl,rfl⟩
      go_wp2
      go_ret
      exact⟨by rw[HR2.out];rfl,by trivial⟩
     |some q=>
      rw[hx]at HI hs
      have hq:=(sE_br _ _ _ _ _ hx).le
      have HH:=hide HI
      have HS2:=hide hs
      have hqn:decide ((q:Int)<0)=false:=decide_eq_false (by omega)
      clear HI hs hx
      go_wp2_with fail
      refine HH.out.mono ?_
      rintro e w1 ⟨rfl,rfl⟩
      unfold oi
      go_wp2
      go_roundw
      case rel=>exact⟨k+1,q,by omega,by go_num,rfl,hq,HS2.out,by trivial⟩
      case measure=>simp[intOf];omega
    ·have hlti:decide ((k:Int)<C)=false:=decide_eq_false (by omega)
     have HR2:Hid (oi (sE L.length (cn L) (f+1) i)=p):=by show _=_;rw[← hs,show C.toNat - k=0 by omega];rfl
     clear hs
     go_wp2
     go_ret
     exact⟨by rw[HR2.out];rfl,by trivial⟩
  ·have t0:decide ((L.length:Int)≤(i:Int))=true:=decide_eq_true (by omega)
   have HR:Hid (oi (sE L.length (cn L) (f+1) i) = -1):=by show _=_;rw[sE,if_pos (by omega)];rfl
   clear hc ha ih
   go_enter Tryz.func45,Tryz.ntmps45
   go_wp2
   go_ret
   exact⟨by rw[HR.out];rfl,by trivial⟩
end Go.Proofs.YtbiakdjpeblclaaGreatDoor

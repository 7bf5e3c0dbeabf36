import Derived.Test.YtdlhlfpigcgapaaGreatDoorAZal
import Derived.Test.YtdlhlfpigcgapaaGreatDoorAZkf
set_option maxRecDepth 100000
set_option maxHeartbeats 16000000
set_option linter.unusedVariables false
set_option linter.unusedSimpArgs false
set_option linter.defProp false
namespace Go.Proofs.YtdlhlfpigcgapaaGreatDoor.Krn
open Go.Proofs.Tryz
open Go.ChangeShapes Go.WideShapes Go.ChangeAt Go.RowKit
open Mm
section
variable {B:Nat} {w0:World} {A:List (Nat×List Value×TypeId)} {a:KA} {m m':Nat} {S S':KS} {w w':World}
def rV (n:Nat) (S:KS) (c:Int):A0 n S c=0\/A0 n S c=1\/A0 n S c=2\/A0 n S c=3\/A0 n S c=4\/A0 n S c=5\/A0 n S c=6\/A0 n S c=7\/A0 n S c=8\/A0 n S c=9:=by
 unfold A0 Cor.Co.next Cor.Co.BG
 repeat' split
 all_goals simp
def AAe (h:KX B w0 A a m S w) (c:Int) (hc:AJ a.n c=true) (hcp:-9223372036854775808<=Hp.Bq S.R) (hm:m+33<=1000000):
 Calls prog 42 #[.pointer (some ⟨a.k,0,none⟩),.int .i64 (c)] w λe w'=>∃ v X,e=.returned v/\KX B w0 (X++A) a (m+33) (step a.n S c).2 w'/\Rr X v (step a.n S c).1:=by
 obtain ⟨RS,hRS⟩:∃ RS,step a.n S c=RS:=⟨_,rfl⟩
 have HRS:Hid (step a.n S c=RS):=hRS
 rw [hRS]
 clear hRS
 unfold step at HRS
 generalize hwh:A0 a.n S c=wh at HRS
 have hr:=rV a.n S c
 rw [hwh] at hr
 replace hwh:Cor.Co.next (zc S c).1 (zc S c).2 (flags a.n S c)=wh:=hwh
 have BJ:=h.BJ
 have T:=h.AO
 have tT:Cor.Co.AO S.now=true:=by simp [Cor.Co.AO];omega
 have CG:Hid (∀ _:Unit,_):=λ_=>bF h c hc
 obtain ⟨⟨p,i⟩,hz⟩:∃ q,q=zc S c:=⟨_,rfl⟩
 have HZ:Hid (zc S c=(p,i)):=hz.symm
 rw [<- hz] at hwh
 simp only at hwh
 clear hz
 cases p
 ·have w00:wh=0:=by rw [<- hwh];simp [Cor.Co.next]
  subst w00
  have e9:=HRS.out
  simp only [AHn] at e9
  subst e9
  clear HRS
  go_enter func42,ntmps42
  go_wp2_with fail
  refine (CG.out ()).mono ?_
  rintro e w1 ⟨x,rfl,hx,h1⟩
  obtain ⟨x0,x1,x2,x3,x4,x5⟩:=x
  simp only [pi,HZ.out,AEj] at hx
  obtain ⟨e0,e1⟩:=hx
  subst e0
  have HW:Cor.Co.next false x1 (flags a.n S c)=0:=by rw [e1];exact hwh
  clear e1
  have h2:=h1.new [.bool false,.bool x1,.int .i64 x2,.int .i64 x3,.int .i64 x4,.int .i64 x5] 113
  have CN:Hid (∀ v,_):=λv=>Cor.Gi ⟨false,x1,x2,x3,x4,x5⟩ (flags a.n S c) v
  simp only [HW] at CN
  obtain ⟨b0,b1,b2,b3,b4,b5⟩:=cl6 (b:=w1.heap.size) h2.AC
  go_wp2_with fail
  go_region_held3 (λw'=>w'.cell? ⟨w1.heap.size,0,none⟩=some (.bool false)/\w'.cell? ⟨w1.heap.size,1,none⟩=some (.bool x1)/\w'.cell? ⟨w1.heap.size,2,none⟩=some (.int .i64 x2)/\w'.cell? ⟨w1.heap.size,3,none⟩=some (.int .i64 x3)/\w'.cell? ⟨w1.heap.size,4,none⟩=some (.int .i64 x4)/\w'.cell? ⟨w1.heap.size,5,none⟩=some (.int .i64 x5)) (go_keep)
   (first | (go_at_call 72;refine (Vr (h2.sm ?_) c).mono ?_;(exact ⟨rfl,rfl,rfl,rfl⟩);rintro e w3 ⟨rfl,h3⟩;have d0:w3.cell? ⟨w1.heap.size,0,none⟩=some (.bool false):=h3.AC.cell 0;have d1:w3.cell? ⟨w1.heap.size,1,none⟩=some (.bool x1):=h3.AC.cell 1;have d2:w3.cell? ⟨w1.heap.size,2,none⟩=some (.int .i64 x2):=h3.AC.cell 2;have d3:w3.cell? ⟨w1.heap.size,3,none⟩=some (.int .i64 x3):=h3.AC.cell 3;have d4:w3.cell? ⟨w1.heap.size,4,none⟩=some (.int .i64 x4):=h3.AC.cell 4;have d5:w3.cell? ⟨w1.heap.size,5,none⟩=some (.int .i64 x5):=h3.AC.cell 5) | (go_at_call 71;refine (CN.out _).mono ?_;rintro e w4 ⟨rfl,f4⟩;have h4:=h3.lS f4 ⟨rfl,rfl,rfl,rfl⟩;have f0:w4.cell? ⟨w1.heap.size,0,none⟩=some (.bool false):=h4.AC.cell 0;have f1:w4.cell? ⟨w1.heap.size,1,none⟩=some (.bool x1):=h4.AC.cell 1;have f2:w4.cell? ⟨w1.heap.size,2,none⟩=some (.int .i64 x2):=h4.AC.cell 2;have f3:w4.cell? ⟨w1.heap.size,3,none⟩=some (.int .i64 x3):=h4.AC.cell 3;have f4:w4.cell? ⟨w1.heap.size,4,none⟩=some (.int .i64 x4):=h4.AC.cell 4;have f5:w4.cell? ⟨w1.heap.size,5,none⟩=some (.int .i64 x5):=h4.AC.cell 5))
  go_wp2
  go_ret
  first | exact ⟨_,[],rfl,(h4.drop).more (by omega),Rr.none⟩ | exact ⟨_,rfl,[],(h4.drop).more (by omega),Rr.none⟩
 ·go_enter func42,ntmps42
  go_wp2_with fail
  refine (CG.out ()).mono ?_
  rintro e w1 ⟨x,rfl,hx,h1⟩
  obtain ⟨x0,x1,x2,x3,x4,x5⟩:=x
  simp only [pi,HZ.out,AEj] at hx
  obtain ⟨e0,e1⟩:=hx
  subst e0
  have HW:Cor.Co.next true x1 (flags a.n S c)=wh:=by rw [e1];exact hwh
  clear e1
  have h2:=h1.new [.bool true,.bool x1,.int .i64 x2,.int .i64 x3,.int .i64 x4,.int .i64 x5] 113
  have CN:Hid (∀ v,_):=λv=>Cor.Gi ⟨true,x1,x2,x3,x4,x5⟩ (flags a.n S c) v
  simp only [HW] at CN
  obtain ⟨b0,b1,b2,b3,b4,b5⟩:=cl6 (b:=w1.heap.size) h2.AC
  go_wp2_with fail
  go_region_held3 (λw'=>w'.cell? ⟨w1.heap.size,0,none⟩=some (.bool true)/\w'.cell? ⟨w1.heap.size,1,none⟩=some (.bool x1)/\w'.cell? ⟨w1.heap.size,2,none⟩=some (.int .i64 x2)/\w'.cell? ⟨w1.heap.size,3,none⟩=some (.int .i64 x3)/\w'.cell? ⟨w1.heap.size,4,none⟩=some (.int .i64 x4)/\w'.cell? ⟨w1.heap.size,5,none⟩=some (.int .i64 x5)) (go_keep)
   (first | (go_at_call 72;refine (Vr (h2.sm ?_) c).mono ?_;(exact ⟨rfl,rfl,rfl,rfl⟩);rintro e w3 ⟨rfl,h3⟩;have d0:w3.cell? ⟨w1.heap.size,0,none⟩=some (.bool true):=h3.AC.cell 0;have d1:w3.cell? ⟨w1.heap.size,1,none⟩=some (.bool x1):=h3.AC.cell 1;have d2:w3.cell? ⟨w1.heap.size,2,none⟩=some (.int .i64 x2):=h3.AC.cell 2;have d3:w3.cell? ⟨w1.heap.size,3,none⟩=some (.int .i64 x3):=h3.AC.cell 3;have d4:w3.cell? ⟨w1.heap.size,4,none⟩=some (.int .i64 x4):=h3.AC.cell 4;have d5:w3.cell? ⟨w1.heap.size,5,none⟩=some (.int .i64 x5):=h3.AC.cell 5) | (go_at_call 71;refine (CN.out _).mono ?_;rintro e w4 ⟨rfl,f4⟩;have h4:=h3.lS f4 ⟨rfl,rfl,rfl,rfl⟩;have f0:w4.cell? ⟨w1.heap.size,0,none⟩=some (.bool true):=h4.AC.cell 0;have f1:w4.cell? ⟨w1.heap.size,1,none⟩=some (.bool x1):=h4.AC.cell 1;have f2:w4.cell? ⟨w1.heap.size,2,none⟩=some (.int .i64 x2):=h4.AC.cell 2;have f3:w4.cell? ⟨w1.heap.size,3,none⟩=some (.int .i64 x3):=h4.AC.cell 3;have f4:w4.cell? ⟨w1.heap.size,4,none⟩=some (.int .i64 x4):=h4.AC.cell 4;have f5:w4.cell? ⟨w1.heap.size,5,none⟩=some (.int .i64 x5):=h4.AC.cell 5))
  rcases hr with rfl | rfl | rfl | rfl | rfl | rfl | rfl | rfl | rfl | rfl
  ·have e9:=HRS.out
   simp only [AHn] at e9
   subst e9
   clear HRS
   have BJ:=h4.BJ
   go_wp2_with fail
   refine (B4 h4 c false hc).mono ?_
   rintro e w5 ⟨⟨y5,rfl⟩,h5⟩
   go_wp2
   go_ret
   first | exact ⟨_,[],rfl,(h5.drop).more (by omega),Rr.none⟩ | exact ⟨_,rfl,[],(h5.drop).more (by omega),Rr.none⟩
  ·have e9:=HRS.out
   simp only [Bc,Int.reduceEq,AHn,AHm] at e9
   subst e9
   clear HRS
   have CW:Hid (∀ v A,KX B w0 A a m S v->_):=λv A k=>bQ k
   have CK:Hid (∀ v A,KX B w0 A a m S v->_):=λv A k=>rI k c S.now hc tT
   have BJ:=h4.BJ
   go_wp2_with fail
   refine (B4 h4 c true hc).mono ?_
   rintro e w5 ⟨⟨y5,rfl⟩,h5⟩
   have g15:=h5.BJ
   go_wp2_with fail
   go_region_held3 (λw'=>w'.cell? ⟨a.k,15,none⟩=some (.pointer (some ⟨a.co,0,none⟩))) (go_keep)
    (first | (go_at_call 75;refine (CW.out _ _ (h5.sm ?_)).mono ?_;(exact ⟨rfl,rfl,rfl,rfl⟩);rintro e w6 ⟨rfl,rfl⟩;clear CW) | (go_at_call 74;refine (CK.out _ _ (h5.sm ?_)).mono ?_;(exact ⟨rfl,rfl,rfl,rfl⟩);rintro e w7 ⟨⟨y6,y7,rfl⟩,h7⟩;have g16:=h7.BJ))
   go_wp2
   go_ret
   first | exact ⟨_,[],rfl,(h7.drop).more (by omega),Rr.none⟩ | exact ⟨_,rfl,[],(h7.drop).more (by omega),Rr.none⟩
  ·have e9:=HRS.out
   simp only [Bc,Int.reduceEq,AHn,AHm] at e9
   subst e9
   clear HRS
   have BJ:=h4.BJ
   go_wp2_with fail
   refine (B4 h4 c true hc).mono ?_
   rintro e w5 ⟨⟨y5,rfl⟩,h5⟩
   have g14:=h5.Ba
   go_wp2_with fail
   refine (yR h5 c).mono ?_
   rintro e w6 ⟨rfl,h6⟩
   go_wp2
   go_ret
   first | exact ⟨_,[],rfl,(h6.drop).more (by omega),Rr.none⟩ | exact ⟨_,rfl,[],(h6.drop).more (by omega),Rr.none⟩
  ·have e9:=HRS.out
   simp only [Bc,Int.reduceEq,AHn,AHm] at e9
   subst e9
   clear HRS
   have BJ:=h4.BJ
   go_wp2_with fail
   refine (B4 h4 c true hc).mono ?_
   rintro e w5 ⟨⟨y5,rfl⟩,h5⟩
   go_wp2_with fail
   refine (ACN h5 hcp hm).mono ?_
   rintro e w6 ⟨v6,X6,rfl,h6,r6⟩
   go_wp2
   go_ret
   first | exact ⟨_,X6,rfl,h6.sub (λy hy=>by rcases ADi.1 hy with e | e;exact AEf _ e;exact ADb _ (ADV _ e)),r6⟩ | exact ⟨_,rfl,X6,h6.sub (λy hy=>by rcases ADi.1 hy with e | e;exact AEf _ e;exact ADb _ (ADV _ e)),r6⟩
  ·have e9:=HRS.out
   simp only [Bc,Int.reduceEq,AHn,AHm] at e9
   subst e9
   clear HRS
   have BJ:=h4.BJ
   go_wp2_with fail
   refine (B4 h4 c true hc).mono ?_
   rintro e w5 ⟨⟨y5,rfl⟩,h5⟩
   go_wp2_with fail
   refine (iW h5 c).mono ?_
   rintro e w6 ⟨rfl,h6⟩
   have h6:=h6.more (m':=m+33) (by omega)
   go_wp2
   go_ret
   first | exact ⟨_,_,rfl,(h6.Am ⟨6,c,Cm.LO S.cl c,0,0⟩).1.sub (λy hy=>by simp only [ADr,AD0] at hy ⊢;rcases hy with e | e;exact Or.inl e;exact Or.inr (Or.inr e)),(h6.Am ⟨6,c,Cm.LO S.cl c,0,0⟩).2⟩ | exact ⟨_,rfl,_,(h6.Am ⟨6,c,Cm.LO S.cl c,0,0⟩).1.sub (λy hy=>by simp only [ADr,AD0] at hy ⊢;rcases hy with e | e;exact Or.inl e;exact Or.inr (Or.inr e)),(h6.Am ⟨6,c,Cm.LO S.cl c,0,0⟩).2⟩
  ·have e9:=HRS.out
   simp only [Bc,Int.reduceEq,AHn,AHm] at e9
   subst e9
   clear HRS
   have BJ:=h4.BJ
   go_wp2_with fail
   refine (B4 h4 c true hc).mono ?_
   rintro e w5 ⟨⟨y5,rfl⟩,h5⟩
   go_wp2_with fail
   refine (iZ h5 c).mono ?_
   rintro e w6 ⟨rfl,h6⟩
   have h6:=h6.more (m':=m+33) (by omega)
   go_wp2
   go_ret
   first | exact ⟨_,_,rfl,(h6.Am ⟨4,c,(Bh S c).getD 0,0,0⟩).1.sub (λy hy=>by simp only [ADr,AD0] at hy ⊢;rcases hy with e | e;exact Or.inl e;exact Or.inr (Or.inr e)),(h6.Am ⟨4,c,(Bh S c).getD 0,0,0⟩).2⟩ | exact ⟨_,rfl,_,(h6.Am ⟨4,c,(Bh S c).getD 0,0,0⟩).1.sub (λy hy=>by simp only [ADr,AD0] at hy ⊢;rcases hy with e | e;exact Or.inl e;exact Or.inr (Or.inr e)),(h6.Am ⟨4,c,(Bh S c).getD 0,0,0⟩).2⟩
  ·have e9:=HRS.out
   simp only [Bc,Int.reduceEq,AHn,AHm] at e9
   subst e9
   clear HRS
   have BJ:=h4.BJ
   go_wp2_with fail
   refine (B4 h4 c true hc).mono ?_
   rintro e w5 ⟨⟨y5,rfl⟩,h5⟩
   go_wp2_with fail
   refine (jA h5 c (by omega)).mono ?_
   rintro e w6 ⟨rfl,h6⟩
   have h6:=h6.more (m':=m+33) (by omega)
   go_wp2
   go_ret
   first | exact ⟨_,_,rfl,(h6.Am ⟨3,c,(Bz a.n (BI S c) c).1,(Bz a.n (BI S c) c).2.1,0⟩).1.sub (λy hy=>by simp only [ADr,AD0] at hy ⊢;rcases hy with e | e;exact Or.inl e;exact Or.inr (Or.inr e)),(h6.Am ⟨3,c,(Bz a.n (BI S c) c).1,(Bz a.n (BI S c) c).2.1,0⟩).2⟩ | exact ⟨_,rfl,_,(h6.Am ⟨3,c,(Bz a.n (BI S c) c).1,(Bz a.n (BI S c) c).2.1,0⟩).1.sub (λy hy=>by simp only [ADr,AD0] at hy ⊢;rcases hy with e | e;exact Or.inl e;exact Or.inr (Or.inr e)),(h6.Am ⟨3,c,(Bz a.n (BI S c) c).1,(Bz a.n (BI S c) c).2.1,0⟩).2⟩
  ·have e9:=HRS.out
   simp only [Bc,Int.reduceEq,AHn,AHm] at e9
   subst e9
   clear HRS
   have BJ:=h4.BJ
   go_wp2_with fail
   refine (B4 h4 c true hc).mono ?_
   rintro e w5 ⟨⟨y5,rfl⟩,h5⟩
   go_wp2_with fail
   refine (iX h5 c).mono ?_
   rintro e w6 ⟨rfl,h6⟩
   have h6:=h6.more (m':=m+33) (by omega)
   go_wp2
   go_ret
   first | exact ⟨_,_,rfl,(h6.Am ⟨5,c,Cm.LQ a.n S.wk c,0,0⟩).1.sub (λy hy=>by simp only [ADr,AD0] at hy ⊢;rcases hy with e | e;exact Or.inl e;exact Or.inr (Or.inr e)),(h6.Am ⟨5,c,Cm.LQ a.n S.wk c,0,0⟩).2⟩ | exact ⟨_,rfl,_,(h6.Am ⟨5,c,Cm.LQ a.n S.wk c,0,0⟩).1.sub (λy hy=>by simp only [ADr,AD0] at hy ⊢;rcases hy with e | e;exact Or.inl e;exact Or.inr (Or.inr e)),(h6.Am ⟨5,c,Cm.LQ a.n S.wk c,0,0⟩).2⟩
  ·have e9:=HRS.out
   simp only [Bc,Int.reduceEq,AHn,AHm] at e9
   subst e9
   clear HRS
   have BJ:=h4.BJ
   go_wp2_with fail
   refine (B4 h4 c true hc).mono ?_
   rintro e w5 ⟨⟨y5,rfl⟩,h5⟩
   go_wp2_with fail
   refine (iY h5 c).mono ?_
   rintro e w6 ⟨rfl,h6⟩
   have h6:=h6.more (m':=m+33) (by omega)
   go_wp2
   go_ret
   first | exact ⟨_,_,rfl,(h6.Am ⟨2,c,Rqu.Jg a.n S.q c,0,0⟩).1.sub (λy hy=>by simp only [ADr,AD0] at hy ⊢;rcases hy with e | e;exact Or.inl e;exact Or.inr (Or.inr e)),(h6.Am ⟨2,c,Rqu.Jg a.n S.q c,0,0⟩).2⟩ | exact ⟨_,rfl,_,(h6.Am ⟨2,c,Rqu.Jg a.n S.q c,0,0⟩).1.sub (λy hy=>by simp only [ADr,AD0] at hy ⊢;rcases hy with e | e;exact Or.inl e;exact Or.inr (Or.inr e)),(h6.Am ⟨2,c,Rqu.Jg a.n S.q c,0,0⟩).2⟩
  ·have e9:=HRS.out
   simp only [Bc,Int.reduceEq,AHn,AHm] at e9
   subst e9
   clear HRS
   have BJ:=h4.BJ
   go_wp2_with fail
   refine (B4 h4 c false hc).mono ?_
   rintro e w5 ⟨⟨y5,rfl⟩,h5⟩
   go_wp2_with fail
   refine (zG h5 c hc).mono ?_
   rintro e w6 ⟨rfl,h6⟩
   go_wp2
   go_ret
   first | exact ⟨_,[],rfl,(h6.drop).more (by omega),Rr.none⟩ | exact ⟨_,rfl,[],(h6.drop).more (by omega),Rr.none⟩
end
end Go.Proofs.YtdlhlfpigcgapaaGreatDoor.Krn

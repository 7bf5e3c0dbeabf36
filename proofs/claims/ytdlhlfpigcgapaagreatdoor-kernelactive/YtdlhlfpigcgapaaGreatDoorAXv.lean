import Derived.Test.YtdlhlfpigcgapaaGreatDoorAZal
import Derived.Test.YtdlhlfpigcgapaaGreatDoorAXa
import Derived.Test.YtdlhlfpigcgapaaGreatDoorAXl
import Derived.Laws.Bits64b
import Derived.Lib.Mul64
import Derived.Deep.RegionHeld3
set_option maxRecDepth 100000
set_option maxHeartbeats 16000000
set_option linter.unusedVariables false
set_option linter.unusedSimpArgs false
set_option linter.defProp false
namespace Go.Proofs.YtdlhlfpigcgapaaGreatDoor.Ma
open Go.Proofs.Tryz
variable {U V Y0 Y1 q r:Nat}
structure Da (U V Y1 Y0:Nat):Prop where
 lo1:2147483648<=Y1
 hi1:Y1<4294967296
 hi0:Y0<4294967296
 hiV:V<4294967296
 below:U<Y1*4294967296+Y0
def quo (U V Y1 Y0:Nat):Nat:=(U*4294967296+V) / (Y1*4294967296+Y0)
def rem (U V Y1 Y0:Nat):Nat:=(U*4294967296+V) % (Y1*4294967296+Y0)
structure FP (U V Y1 Y0 q r:Nat):Prop where
 sum:q*Y1+r=U
 r_lt:r<4294967296
 ge:quo U V Y1 Y0<=q
 le:q<=4294967297
def gA (q Y1 Y0:Nat):q*(Y1*4294967296+Y0)=q*Y1*4294967296+q*Y0:=by
 rw [Nat.mul_add,AFe]
def Sc (d:Da U V Y1 Y0):quo U V Y1 Y0<4294967296:=by
 have:=d.below;have:=d.hiV;have:=d.lo1
 unfold quo
 rw [AFh (by omega)]
 omega
def Z7 (d:Da U V Y1 Y0) (h:q*Y1*4294967296+q*Y0<=U*4294967296+V):q<=quo U V Y1 Y0:=by
 have:=d.lo1
 unfold quo
 rw [Nat.le_div_iff_mul_le (by omega),gA]
 exact h
def Z8 (d:Da U V Y1 Y0) (h:U*4294967296+V<q*Y1*4294967296+q*Y0):quo U V Y1 Y0<q:=by
 have:=d.lo1
 unfold quo
 rw [AFh (by omega),gA]
 exact h
def Fj (d:Da U V Y1 Y0):FP U V Y1 Y0 (U / Y1) (U % Y1):=by
 have h1:=d.lo1;have h2:=d.hi1;have h3:=d.hi0;have h4:=d.hiV;have h5:=d.below
 have m:=AE8 U (show 0<Y1 by omega)
 refine ⟨Nat.div_add_mod' U Y1,by omega,?_,?_⟩
 ·rw [Nat.le_div_iff_mul_le (by omega)]
  have e:quo U V Y1 Y0*(Y1*4294967296+Y0)<=U*4294967296+V:=Nat.div_mul_le_self _ _
  rw [gA] at e
  generalize quo U V Y1 Y0*Y1=A at *
  generalize quo U V Y1 Y0*Y0=B at *
  omega
 ·have:U / Y1<4294967298:=by
   rw [AFh (by omega)]
   omega
  omega
def I9 (d:Da U V Y1 Y0) (n:FP U V Y1 Y0 q r) (h:q*Y0<=4294967296*r+V):q=quo U V Y1 Y0:=by
 have h1:=n.sum
 have:=Z7 (q:=q) d (by
  generalize q*Y1=A at *
  generalize q*Y0=B at *
  omega)
 have:=n.ge
 omega
def AR (d:Da U V Y1 Y0) (n:FP U V Y1 Y0 q r) (h:4294967296<=q\/4294967296*r+V<q*Y0):quo U V Y1 Y0<=q-1/\1<=q:=by
 have h1:=n.sum
 have:quo U V Y1 Y0<q:=by
  rcases h with h | h
  ·have:=Sc d;omega
  ·refine Z8 d ?_
   generalize q*Y1=A at *
   generalize q*Y0=B at *
   omega
 omega
def pred_mul (q Y1:Nat) (h:1<=q):(q-1)*Y1+Y1=q*Y1:=by
 obtain ⟨k,rfl⟩:∃ k,q=k+1:=⟨q-1,by omega⟩
 rw [AFP,Nat.add_mul,Nat.one_mul]
def CZ (d:Da U V Y1 Y0) (n:FP U V Y1 Y0 q r) (h:4294967296<=q\/4294967296*r+V<q*Y0) (hr:r+Y1<4294967296):FP U V Y1 Y0 (q-1) (r+Y1):=by
 have m:=AR d n h
 have e:=pred_mul q Y1 m.2
 have h1:=n.sum
 have h2:=n.le
 exact ⟨by omega,hr,m.1,by omega⟩
def Bw (d:Da U V Y1 Y0) (n:FP U V Y1 Y0 q r) (h:4294967296<=q\/4294967296*r+V<q*Y0) (hr:4294967296<=r+Y1):q-1=quo U V Y1 Y0:=by
 have m:=AR d n h
 have e:=pred_mul q Y1 m.2
 have h1:=n.sum
 have h2:=n.le
 have h3:=d.hi0
 have b:(q-1)*Y0<=4294967296*4294967295:=AFz (by omega) (by omega)
 have:=Z7 (q:=q-1) d (by
  generalize (q-1)*Y1=A at *
  generalize (q-1)*Y0=B at *
  generalize q*Y1=C at *
  omega)
 omega
def xZ {T Y d:Nat} (hY:0<Y) (hT:T=r+Y*d):T / Y=r / Y+d:=by
 rw [hT]
 exact Nat.add_mul_div_left r d hY
def pQ (U V1 V0 Y d r:Nat) (hY:0<Y) (e:Y*d+r=U*4294967296+V1):d*4294967296+(r*4294967296+V0) / Y=(U*18446744073709551616+(V1*4294967296+V0)) / Y:=by
 have g:=xZ (T:=U*18446744073709551616+(V1*4294967296+V0)) (r:=r*4294967296+V0) (d:=d*4294967296) hY (by
  rw [<- AFe]
  generalize Y*d=A at *
  omega)
 rw [g,AF8]
def Wz (U V1 V0 Y:Nat) (hY:0<Y):(U*4294967296+V1) / Y*4294967296+((U*4294967296+V1) % Y*4294967296+V0) / Y=(U*18446744073709551616+(V1*4294967296+V0)) / Y:=
 pQ U V1 V0 Y _ _ hY (Nat.div_add_mod (U*4294967296+V1) Y)
def Ld:∀ (f x:Nat),x<2 ^ f->x<2 ^ Lib.bitLenAux f x/\(x≠0->2 ^ Lib.bitLenAux f x<=2*x)
 | 0,x,h=>by
  have:x=0:=by simpa using h
  subst this
  simp [Lib.bitLenAux]
 | f+1,x,h=>by
  rw [AE7] at h
  have ih:=Ld f (x / 2) (by omega)
  simp only [Lib.bitLenAux]
  split
  ·rename_i hx
   subst hx
   simp
  ·rename_i hx
   rw [AF8,AE7]
   refine ⟨by omega,λ_=>?_⟩
   by_cases h2:x / 2=0
   ·have:Lib.bitLenAux f (x / 2)=0:=by rw [h2];cases f <;> simp [Lib.bitLenAux]
    rw [this];omega
   ·have:=ih.2 h2
    omega
def Z9 (y:Nat) (h0:0<y) (hy:y<18446744073709551616):∃ s:Nat,s<=63/\64-(Lib.bitLen y:Int)=s/\9223372036854775808<=y*2 ^ s/\y*2 ^ s<18446744073709551616:=by
 have a:=Ld 64 y (by omega)
 have l:=Lib.bitLen_le y 64 (by omega) (by omega)
 change y<2 ^ Lib.bitLen y/\(y≠0->2 ^ Lib.bitLen y<=2*y) at a
 have a2:=a.2 (by omega)
 generalize Lib.bitLen y=L at *
 have l1:1<=L:=by
  rcases L with _ | L
  ·simp at a;omega
  ·omega
 have e:2 ^ L*2 ^ (64-L)=18446744073709551616:=by rw [<- AFc,show L+(64-L)=64 by omega]
 have p:0<2 ^ (64-L):=AEJ _
 refine ⟨64-L,by omega,by omega,?_,?_⟩
 ·have:=AFi (2 ^ (64-L)) a2
  rw [e,AFe] at this
  omega
 ·have:=AFV a.1 p
  rw [e] at this
  exact this
def W4 (hi lo y s:Nat) (h1:hi<y) (hl:lo<18446744073709551616) (hs:s<=63):
 hi*2 ^ s ||| lo / 2 ^ (64-s)=hi*2 ^ s+lo / 2 ^ (64-s)/\
 hi*2 ^ s+lo / 2 ^ (64-s)<y*2 ^ s/\
 (hi*2 ^ s+lo / 2 ^ (64-s))*18446744073709551616+lo*2 ^ s % 18446744073709551616=(hi*18446744073709551616+lo)*2 ^ s:=by
 have e:2 ^ (64-s)*2 ^ s=18446744073709551616:=by rw [<- AFc,show 64-s+s=64 by omega]
 have b:lo / 2 ^ (64-s)<2 ^ s:=by
  refine Nat.div_lt_of_lt_mul ?_
  rw [e];exact hl
 refine ⟨?_,?_,?_⟩
 ·have:=Nat.shiftLeft_add_eq_or_of_lt b hi
  rw [Nat.shiftLeft_eq] at this
  exact this.symm
 ·have:=AFi (2 ^ s) (show hi+1<=y by omega)
  rw [Nat.add_mul] at this
  omega
 ·have d:lo*2 ^ s / 18446744073709551616=lo / 2 ^ (64-s):=by
   rw [<- e];exact Nat.mul_div_mul_right _ _ (AEJ s)
  have m:=Nat.div_add_mod (lo*2 ^ s) 18446744073709551616
  rw [d] at m
  rw [Nat.add_mul,Nat.add_mul,Nat.mul_right_comm hi]
  generalize hi*2 ^ s=A at *
  generalize lo / 2 ^ (64-s)=B at *
  generalize lo*2 ^ s=C at *
  omega
def aA (N y s:Nat):N*2 ^ s / (y*2 ^ s)=N / y:=Nat.mul_div_mul_right _ _ (AEJ s)
end Go.Proofs.YtdlhlfpigcgapaaGreatDoor.Ma
namespace Go.Proofs.YtdlhlfpigcgapaaGreatDoor.Frq
open Go.Proofs.Tryz
open Go.ChangeShapes Go.WideShapes Go.ChangeAt Go.RowKit
open Ma
variable {k:IntKind} {Y a p s:Nat} {b c hi lo:Int}
def Ff (a:Nat) (ha:a<18446744073709551616):IntKind.u64.wrap (a:Int)=(a:Int):=by rw [IntKind.wrap_u64];omega
def Ca {a:Int} (h:a=b):Ending.returned (.tuple #[.int k a,.int k c])=.returned (.tuple #[.int k b,.int k c]):=by rw [h]
def J4 (a:Nat) (ha:a<18446744073709551616):bits .and .u64 (a:Int) 4294967295=((a % 4294967296:Nat):Int):=by
 have h:=bits_and_u64_nat a 4294967295 ha (by omega)
 have e:a&&& 4294967295=a % 4294967296:=AFO a 32
 rw [e] at h
 exact h
def Ee {a:Int} (h:a=b):Ending.returned (.int k a)=.returned (.int k b):=by rw [h]
def IC {a d:Int} (h:a=b) (g:c=d):Ending.returned (.tuple #[.int k a,.int k c])=.returned (.tuple #[.int k b,.int k d]):=by rw [h,g]
def DA (x:Nat) (w:World) (hx:x<18446744073709551616):
 Calls prog 344 #[.int .u64 x] w λe w'=>e=.returned (.int .i64 (Lib.bitLen x))/\w'=w:=
 UP x w (by omega) (by omega)
def Wh (y s:Nat) (w:World) (hy:y<18446744073709551616) (h:64-(Lib.bitLen y:Int)=s):
 Calls prog 364 #[.int .u64 y] w λe w'=>e=.returned (.int .i64 s)/\w'=w:=by
 obtain ⟨L,hL⟩:∃ L,Lib.bitLen y=L:=⟨_,rfl⟩
 have hb:=Lib.bitLen_le y 64 (by omega) (by omega)
 rw [hL] at h hb
 have HL:Hid (Lib.bitLen y=L):=hL
 have HY:Hid (y<18446744073709551616):=hy
 clear hL hy
 go_enter func364,ntmps364
 go_wp2_with (go_at_call 344;refine (DA y _ HY.out).mono ?_;rintro e w' ⟨rfl,rfl⟩;rw [HL.out])
 go_ret
 exact ⟨rfl,rfl⟩
def yA (a:Nat):(a:Int) / 4294967296=((a / 4294967296:Nat):Int):=by omega
def yB (a b:Nat):(a:Int)*(b:Int)=((a*b:Nat):Int):=(AFr a b).symm
def ABs (a:Nat):IntKind.u64.wrap (a:Int)=((a % 18446744073709551616:Nat):Int):=by rw [IntKind.wrap_u64];omega
def W5 (x y:Nat) (hx:x<18446744073709551616) (hy:y<18446744073709551616):
 IntKind.u64.wrap (IntKind.u64.wrap (IntKind.u64.wrap (↑x / 4294967296*(↑y / 4294967296))+IntKind.u64.wrap (IntKind.u64.wrap (↑x / 4294967296*bits BinOp.and IntKind.u64 (↑y) 4294967295)+IntKind.u64.wrap (bits BinOp.and IntKind.u64 (↑x) 4294967295*bits BinOp.and IntKind.u64 (↑y) 4294967295) / 4294967296) / 4294967296)+IntKind.u64.wrap (bits BinOp.and IntKind.u64 (IntKind.u64.wrap (IntKind.u64.wrap (↑x / 4294967296*bits BinOp.and IntKind.u64 (↑y) 4294967295)+IntKind.u64.wrap (bits BinOp.and IntKind.u64 (↑x) 4294967295*bits BinOp.and IntKind.u64 (↑y) 4294967295) / 4294967296)) 4294967295+IntKind.u64.wrap (bits BinOp.and IntKind.u64 (↑x) 4294967295*(↑y / 4294967296))) / 4294967296)=((x*y / 18446744073709551616:Nat):Int):=by
 obtain ⟨bd,bt,bw,hhi⟩:=Lib.mul64_hi x y hx hy
 have ba:=Lib.half_mul_le (a:=x / 4294967296) (b:=y / 4294967296) (by omega) (by omega)
 have bb:=Lib.half_mul_le (a:=x / 4294967296) (b:=y % 4294967296) (by omega) (by omega)
 have bc:=Lib.half_mul_le (a:=x % 4294967296) (b:=y / 4294967296) (by omega) (by omega)
 rw [J4 x hx,J4 y hy,yA x,yA y,<- hhi]
 simp only [yB]
 generalize x / 4294967296*(y / 4294967296)=p11 at *
 generalize x / 4294967296*(y % 4294967296)=p10 at *
 generalize x % 4294967296*(y / 4294967296)=p01 at *
 generalize x % 4294967296*(y % 4294967296)=w0 at *
 have e:IntKind.u64.wrap (IntKind.u64.wrap (p10:Int)+IntKind.u64.wrap (w0:Int) / 4294967296)=((p10+w0 / 4294967296:Nat):Int):=by
  simp only [IntKind.wrap_u64];omega
 rw [e,J4 _ bt]
 simp only [IntKind.wrap_u64]
 omega
def W6 (x y:Nat):IntKind.u64.wrap ((x:Int)*y)=((x*y % 18446744073709551616:Nat):Int):=by
 rw [yB,ABs]
def pR (x y:Nat) (hx:x<18446744073709551616) (hy:y<18446744073709551616) (w:World):
 Calls prog 361 #[.int .u64 x,.int .u64 y] w λe w'=>e=.returned (.tuple #[.int .u64 ((x*y / 18446744073709551616:Nat):Int),.int .u64 ((x*y % 18446744073709551616:Nat):Int)])/\w'=w:=by
 have HX:Hid (x<18446744073709551616/\y<18446744073709551616):=⟨hx,hy⟩
 clear hx hy
 obtain ⟨H,hH⟩:∃ H:Nat,x*y / 18446744073709551616=H:=⟨_,rfl⟩
 obtain ⟨L,hL⟩:∃ L:Nat,x*y % 18446744073709551616=L:=⟨_,rfl⟩
 rw [hH,hL]
 have HH:Hid (x*y / 18446744073709551616=H):=hH
 have HL:Hid (x*y % 18446744073709551616=L):=hL
 clear hH hL
 go_enter func361,ntmps361
 go_wp2
 go_ret2
 exact ⟨IC (by rw [<- HH.out];exact W5 x y HX.out.1 HX.out.2) (by rw [<- HL.out];exact W6 x y),rfl⟩
def K0 (hp:a*Y=p) (ha:(a:Int)<=4294967297) (hy:(Y:Int)<=4294967295):(p:Int)<=18446744073709551615:=by
 have:p<=4294967297*4294967295:=by rw [<- hp];exact AFz (by omega) (by omega)
 omega
def Gy (hp:a*Y=p) (h:(p:Int)<=18446744073709551615):IntKind.u64.wrap ((a:Int)*Y)=(p:Int):=by
 rw [<- AFr,hp];exact Ff p (by omega)
def Cz (h:1<=a):Value.int k ((a:Int)-1)=.int k ((a-1:Nat):Int):=by
 congr 1;omega
def gB (hi lo y s Y Y1 Y0 U V V1 V0 U2 q r q' r' Q1 Q0 Q:Nat) (w:World) (h0:0<hi) (h1:hi<y) (HS:Hid (y<18446744073709551616/\64-(Lib.bitLen y:Int)=s)) (hs4:s<=63)
 (d1:Da U V1 Y1 Y0) (d0:Da U2 V0 Y1 Y0) (n1:FP U V1 Y1 Y0 q r) (n0:FP U2 V0 Y1 Y0 q' r') (HQ1:Hid (Q1=quo U V1 Y1 Y0)) (HQ0:Hid (Q0=quo U2 V0 Y1 Y0)) (HQ:Hid (Q=Q1*4294967296+Q0)) (k1:(Q1:Int)<=4294967295) (k0:(Q0:Int)<=4294967295)
 (hY:IntKind.u64.wrap (↑y*2 ^ s)=(Y:Int)) (hY1:(Y:Int) / 4294967296=Y1) (hY0:bits BinOp.and IntKind.u64 (↑Y) 4294967295=Y0)
 (hU:bits BinOp.or IntKind.u64 (IntKind.u64.wrap (↑hi*2 ^ s)) (↑lo / 2 ^ (64-s))=U)
 (hV:IntKind.u64.wrap (↑lo*2 ^ s)=(V:Int)) (hV1:(V:Int) / 4294967296=V1) (hV0:bits BinOp.and IntKind.u64 (↑V) 4294967295=V0)
 (hq:IntKind.u64.wrap ((U:Int) / Y1)=(q:Int)) (hr:IntKind.u64.wrap ((U:Int)-IntKind.u64.wrap ((q:Int)*Y1))=(r:Int))
 (h2:IntKind.u64.wrap (IntKind.u64.wrap (IntKind.u64.wrap ((U:Int)*4294967296)+V1)-IntKind.u64.wrap ((Q1:Int)*Y))=(U2:Int))
 (hq':IntKind.u64.wrap ((U2:Int) / Y1)=(q':Int)) (hr':IntKind.u64.wrap ((U2:Int)-IntKind.u64.wrap ((q':Int)*Y1))=(r':Int)):
  Calls prog 362 #[.int .u64 hi,.int .u64 lo,.int .u64 y] w λe w'=>(∃ r:Int,e=.returned (.tuple #[.int .u64 Q,.int .u64 r]))/\w'=w:=by
 have e1:((hi:Int)==0)=false:=by simp;omega
 have e2:((y:Int)==0)=false:=by simp;omega
 have e3:(decide ((y:Int)<=hi))=false:=by simp;omega
 have b1:=d1.lo1
 have hz:¬ (Y1:Int)=0:=by omega
 go_enter func362,ntmps362
 go_wp2_with (go_at_call 364;refine (Wh y s _ HS.out.1 HS.out.2).mono ?_;rintro e w' ⟨rfl,rfl⟩)
 go_loop [15,16] (λa b=>∃ q r:Nat,FP U V1 Y1 Y0 q r/\a=.int .u64 q/\b=.int .u64 r) (λa _=>(intOf a).toNat)
 case atStart=>exact ⟨q,r,n1,rfl,rfl⟩
 case round=>
  obtain ⟨xa,xb,xn,rfl,rfl⟩:=hrel
  have xhb:(xb:Int)<=4294967295:=by have:=xn.r_lt;omega
  have xha:(xa:Int)<=4294967297:=by have:=xn.le;omega
  have xhv:(V1:Int)<=4294967295:=by have:=d1.hiV;omega
  have xhy0:(Y0:Int)<=4294967295:=by have:=d1.hi0;omega
  have xhy1:(Y1:Int)<=4294967295:=by have:=d1.hi1;omega
  obtain ⟨xp,xhp⟩:∃ p:Nat,xa*Y0=p:=⟨_,rfl⟩
  have xhpl:(xp:Int)<=18446744073709551615:=K0 xhp xha xhy0
  have xhw:IntKind.u64.wrap ((xa:Int)*Y0)=(xp:Int):=Gy xhp xhpl
  have xHP:Hid (xa*Y0=xp):=xhp
  clear xhp
  by_cases xc1:(4294967296:Int)<=xa
  ·have xc:Hid (4294967296<=xa\/4294967296*xb+V1<xa*Y0):=Or.inl (by omega)
   by_cases xc3:(4294967296:Int)<=xb+Y1
   ·have xhA:(xa:Int)-1=Q1:=by have:=Bw d1 xn xc (by omega);have:=(AR d1 xn xc).2;rw [HQ1.out];omega
    go_wp2_with fail
    go_loop [18,16] (λa b=>∃ q r:Nat,FP U2 V0 Y1 Y0 q r/\a=.int .u64 q/\b=.int .u64 r) (λa _=>(intOf a).toNat)
    case atStart=>exact ⟨q',r',n0,rfl,rfl⟩
    case round=>
     obtain ⟨za,zb,zn,rfl,rfl⟩:=hrel
     have zhb:(zb:Int)<=4294967295:=by have:=zn.r_lt;omega
     have zha:(za:Int)<=4294967297:=by have:=zn.le;omega
     have zhv:(V0:Int)<=4294967295:=by have:=d0.hiV;omega
     have zhy0:(Y0:Int)<=4294967295:=by have:=d0.hi0;omega
     have zhy1:(Y1:Int)<=4294967295:=by have:=d0.hi1;omega
     obtain ⟨zp,zhp⟩:∃ p:Nat,za*Y0=p:=⟨_,rfl⟩
     have zhpl:(zp:Int)<=18446744073709551615:=K0 zhp zha zhy0
     have zhw:IntKind.u64.wrap ((za:Int)*Y0)=(zp:Int):=Gy zhp zhpl
     have zHP:Hid (za*Y0=zp):=zhp
     clear zhp
     by_cases zc1:(4294967296:Int)<=za
     ·have zc:Hid (4294967296<=za\/4294967296*zb+V0<za*Y0):=Or.inl (by omega)
      by_cases zc3:(4294967296:Int)<=zb+Y1
      ·have zhA:(za:Int)-1=Q0:=by have:=Bw d0 zn zc (by omega);have:=(AR d0 zn zc).2;rw [HQ0.out];omega
       go_wp2_with fail
       go_ret2
       exact ⟨⟨_,Ca (by have:=HQ.out;omega)⟩,rfl⟩
      ·go_wp2
       go_round
       case rel=>exact ⟨za-1,zb+Y1,CZ d0 zn zc (by omega),Cz (AR d0 zn zc).2,by go_num⟩
       case measure=>simp [intOf];omega
     ·by_cases zc2:(4294967296:Int)*zb+V0<zp
      ·have zc:Hid (4294967296<=za\/4294967296*zb+V0<za*Y0):=Or.inr (by rw [zHP.out];omega)
       have zc4:(1:Int)<=za:=by have:=(AR d0 zn zc).2;omega
       by_cases zc3:(4294967296:Int)<=zb+Y1
       ·have zhA:(za:Int)-1=Q0:=by have:=Bw d0 zn zc (by omega);have:=(AR d0 zn zc).2;rw [HQ0.out];omega
        go_wp2_with fail
        go_ret2
        exact ⟨⟨_,Ca (by have:=HQ.out;omega)⟩,rfl⟩
       ·go_wp2
        go_round
        case rel=>exact ⟨za-1,zb+Y1,CZ d0 zn zc (by omega),Cz (AR d0 zn zc).2,by go_num⟩
        case measure=>simp [intOf];omega
      ·have zhA:za=Q0:=by rw [HQ0.out];exact I9 d0 zn (by rw [zHP.out];omega)
       subst zhA
       go_wp2_with fail
       go_ret2
       exact ⟨⟨_,Ca (by have:=HQ.out;omega)⟩,rfl⟩
   ·go_wp2
    go_round
    case rel=>exact ⟨xa-1,xb+Y1,CZ d1 xn xc (by omega),Cz (AR d1 xn xc).2,by go_num⟩
    case measure=>simp [intOf];omega
  ·by_cases xc2:(4294967296:Int)*xb+V1<xp
   ·have xc:Hid (4294967296<=xa\/4294967296*xb+V1<xa*Y0):=Or.inr (by rw [xHP.out];omega)
    have xc4:(1:Int)<=xa:=by have:=(AR d1 xn xc).2;omega
    by_cases xc3:(4294967296:Int)<=xb+Y1
    ·have xhA:(xa:Int)-1=Q1:=by have:=Bw d1 xn xc (by omega);have:=(AR d1 xn xc).2;rw [HQ1.out];omega
     go_wp2_with fail
     go_loop [18,16] (λa b=>∃ q r:Nat,FP U2 V0 Y1 Y0 q r/\a=.int .u64 q/\b=.int .u64 r) (λa _=>(intOf a).toNat)
     case atStart=>exact ⟨q',r',n0,rfl,rfl⟩
     case round=>
      obtain ⟨za,zb,zn,rfl,rfl⟩:=hrel
      have zhb:(zb:Int)<=4294967295:=by have:=zn.r_lt;omega
      have zha:(za:Int)<=4294967297:=by have:=zn.le;omega
      have zhv:(V0:Int)<=4294967295:=by have:=d0.hiV;omega
      have zhy0:(Y0:Int)<=4294967295:=by have:=d0.hi0;omega
      have zhy1:(Y1:Int)<=4294967295:=by have:=d0.hi1;omega
      obtain ⟨zp,zhp⟩:∃ p:Nat,za*Y0=p:=⟨_,rfl⟩
      have zhpl:(zp:Int)<=18446744073709551615:=K0 zhp zha zhy0
      have zhw:IntKind.u64.wrap ((za:Int)*Y0)=(zp:Int):=Gy zhp zhpl
      have zHP:Hid (za*Y0=zp):=zhp
      clear zhp
      by_cases zc1:(4294967296:Int)<=za
      ·have zc:Hid (4294967296<=za\/4294967296*zb+V0<za*Y0):=Or.inl (by omega)
       by_cases zc3:(4294967296:Int)<=zb+Y1
       ·have zhA:(za:Int)-1=Q0:=by have:=Bw d0 zn zc (by omega);have:=(AR d0 zn zc).2;rw [HQ0.out];omega
        go_wp2_with fail
        go_ret2
        exact ⟨⟨_,Ca (by have:=HQ.out;omega)⟩,rfl⟩
       ·go_wp2
        go_round
        case rel=>exact ⟨za-1,zb+Y1,CZ d0 zn zc (by omega),Cz (AR d0 zn zc).2,by go_num⟩
        case measure=>simp [intOf];omega
      ·by_cases zc2:(4294967296:Int)*zb+V0<zp
       ·have zc:Hid (4294967296<=za\/4294967296*zb+V0<za*Y0):=Or.inr (by rw [zHP.out];omega)
        have zc4:(1:Int)<=za:=by have:=(AR d0 zn zc).2;omega
        by_cases zc3:(4294967296:Int)<=zb+Y1
        ·have zhA:(za:Int)-1=Q0:=by have:=Bw d0 zn zc (by omega);have:=(AR d0 zn zc).2;rw [HQ0.out];omega
         go_wp2_with fail
         go_ret2
         exact ⟨⟨_,Ca (by have:=HQ.out;omega)⟩,rfl⟩
        ·go_wp2
         go_round
         case rel=>exact ⟨za-1,zb+Y1,CZ d0 zn zc (by omega),Cz (AR d0 zn zc).2,by go_num⟩
         case measure=>simp [intOf];omega
       ·have zhA:za=Q0:=by rw [HQ0.out];exact I9 d0 zn (by rw [zHP.out];omega)
        subst zhA
        go_wp2_with fail
        go_ret2
        exact ⟨⟨_,Ca (by have:=HQ.out;omega)⟩,rfl⟩
    ·go_wp2
     go_round
     case rel=>exact ⟨xa-1,xb+Y1,CZ d1 xn xc (by omega),Cz (AR d1 xn xc).2,by go_num⟩
     case measure=>simp [intOf];omega
   ·have xhA:xa=Q1:=by rw [HQ1.out];exact I9 d1 xn (by rw [xHP.out];omega)
    subst xhA
    go_wp2_with fail
    go_loop [18,16] (λa b=>∃ q r:Nat,FP U2 V0 Y1 Y0 q r/\a=.int .u64 q/\b=.int .u64 r) (λa _=>(intOf a).toNat)
    case atStart=>exact ⟨q',r',n0,rfl,rfl⟩
    case round=>
     obtain ⟨za,zb,zn,rfl,rfl⟩:=hrel
     have zhb:(zb:Int)<=4294967295:=by have:=zn.r_lt;omega
     have zha:(za:Int)<=4294967297:=by have:=zn.le;omega
     have zhv:(V0:Int)<=4294967295:=by have:=d0.hiV;omega
     have zhy0:(Y0:Int)<=4294967295:=by have:=d0.hi0;omega
     have zhy1:(Y1:Int)<=4294967295:=by have:=d0.hi1;omega
     obtain ⟨zp,zhp⟩:∃ p:Nat,za*Y0=p:=⟨_,rfl⟩
     have zhpl:(zp:Int)<=18446744073709551615:=K0 zhp zha zhy0
     have zhw:IntKind.u64.wrap ((za:Int)*Y0)=(zp:Int):=Gy zhp zhpl
     have zHP:Hid (za*Y0=zp):=zhp
     clear zhp
     by_cases zc1:(4294967296:Int)<=za
     ·have zc:Hid (4294967296<=za\/4294967296*zb+V0<za*Y0):=Or.inl (by omega)
      by_cases zc3:(4294967296:Int)<=zb+Y1
      ·have zhA:(za:Int)-1=Q0:=by have:=Bw d0 zn zc (by omega);have:=(AR d0 zn zc).2;rw [HQ0.out];omega
       go_wp2_with fail
       go_ret2
       exact ⟨⟨_,Ca (by have:=HQ.out;omega)⟩,rfl⟩
      ·go_wp2
       go_round
       case rel=>exact ⟨za-1,zb+Y1,CZ d0 zn zc (by omega),Cz (AR d0 zn zc).2,by go_num⟩
       case measure=>simp [intOf];omega
     ·by_cases zc2:(4294967296:Int)*zb+V0<zp
      ·have zc:Hid (4294967296<=za\/4294967296*zb+V0<za*Y0):=Or.inr (by rw [zHP.out];omega)
       have zc4:(1:Int)<=za:=by have:=(AR d0 zn zc).2;omega
       by_cases zc3:(4294967296:Int)<=zb+Y1
       ·have zhA:(za:Int)-1=Q0:=by have:=Bw d0 zn zc (by omega);have:=(AR d0 zn zc).2;rw [HQ0.out];omega
        go_wp2_with fail
        go_ret2
        exact ⟨⟨_,Ca (by have:=HQ.out;omega)⟩,rfl⟩
       ·go_wp2
        go_round
        case rel=>exact ⟨za-1,zb+Y1,CZ d0 zn zc (by omega),Cz (AR d0 zn zc).2,by go_num⟩
        case measure=>simp [intOf];omega
      ·have zhA:za=Q0:=by rw [HQ0.out];exact I9 d0 zn (by rw [zHP.out];omega)
       subst zhA
       go_wp2_with fail
       go_ret2
       exact ⟨⟨_,Ca (by have:=HQ.out;omega)⟩,rfl⟩
def P' (U q Y1 r:Nat) (h:q*Y1+r=U) (hU:U<18446744073709551616):IntKind.u64.wrap ((U:Int)-IntKind.u64.wrap ((q:Int)*Y1))=(r:Int):=by
 rw [<- AFr]
 generalize q*Y1=A at *
 simp only [IntKind.wrap_u64]
 omega
def gC (U V Q Y r:Nat) (h:Y*Q+r=U*4294967296+V) (hr:r<18446744073709551616):IntKind.u64.wrap (IntKind.u64.wrap (IntKind.u64.wrap ((U:Int)*4294967296)+V)-IntKind.u64.wrap ((Q:Int)*Y))=(r:Int):=by
 rw [<- AFr,AEZ Q Y]
 generalize Y*Q=A at *
 simp only [IntKind.wrap_u64]
 omega
def MC (U Y1:Nat) (hU:U<18446744073709551616):IntKind.u64.wrap ((U:Int) / Y1)=((U / Y1:Nat):Int):=by
 rw [<- Int.natCast_ediv]
 exact Ff _ (AEb (AF6 _ _) hU)
def aB (U V Y Y1 Y0:Nat) (h:Y1*4294967296+Y0=Y):quo U V Y1 Y0=(U*4294967296+V) / Y/\rem U V Y1 Y0=(U*4294967296+V) % Y:=by
 unfold quo rem;rw [h];exact ⟨rfl,rfl⟩
def Ot (V:Nat):V / 4294967296*4294967296+V % 4294967296=V:=by omega
def gD (hi lo y:Nat) (w:World) (h0:0<hi) (h1:hi<y) (hy:y<18446744073709551616) (hl:lo<18446744073709551616):
 Calls prog 362 #[.int .u64 hi,.int .u64 lo,.int .u64 y] w λe w'=>(∃ r:Int,e=.returned (.tuple #[.int .u64 (((hi*18446744073709551616+lo) / y:Nat):Int),.int .u64 r]))/\w'=w:=by
 obtain ⟨s,hs,hs2,hY1,hY2⟩:=Z9 y (by omega) hy
 obtain ⟨ho,hU,hN⟩:=W4 hi lo y s h1 hl hs
 have hq:=aA (hi*18446744073709551616+lo) y s
 have hhi:hi*2 ^ s<18446744073709551616:=AEb (Nat.le_add_right _ _) (Nat.lt_trans hU hY2)
 have hlo:lo / 2 ^ (64-s)<18446744073709551616:=AEb (AF6 _ _) hl
 have wY:IntKind.u64.wrap (↑y*2 ^ s)=((y*2 ^ s:Nat):Int):=by
  have:=Ff (y*2 ^ s) hY2
  simpa using this
 have wV:IntKind.u64.wrap (↑lo*2 ^ s)=((lo*2 ^ s % 18446744073709551616:Nat):Int):=by
  have:IntKind.u64.wrap ((lo*2 ^ s:Nat):Int)=((lo*2 ^ s % 18446744073709551616:Nat):Int):=by
   rw [IntKind.wrap_u64];omega
  simpa using this
 have wU:bits BinOp.or IntKind.u64 (IntKind.u64.wrap (↑hi*2 ^ s)) (↑lo / 2 ^ (64-s))=((hi*2 ^ s+lo / 2 ^ (64-s):Nat):Int):=by
  have a:=Ff (hi*2 ^ s) hhi
  have b:=bits_or_u64_nat (hi*2 ^ s) (lo / 2 ^ (64-s)) hhi hlo
  rw [ho] at b
  rw [<- b]
  congr 1
 rw [<- hq,<- hN]
 clear hq hN ho hhi hlo
 generalize hi*2 ^ s+lo / 2 ^ (64-s)=U at *
 have hV:lo*2 ^ s % 18446744073709551616<18446744073709551616:=AE8 _ (by omega)
 generalize lo*2 ^ s % 18446744073709551616=V at *
 generalize y*2 ^ s=Y at *
 have d1:Da U (V / 4294967296) (Y / 4294967296) (Y % 4294967296):=⟨by omega,by omega,by omega,by omega,by omega⟩
 obtain ⟨k1,k2⟩:=aB U (V / 4294967296) Y _ _ (Ot Y)
 have hm:rem U (V / 4294967296) (Y / 4294967296) (Y % 4294967296)<Y:=by rw [k2];exact AE8 _ (by omega)
 have dm:Y*quo U (V / 4294967296) (Y / 4294967296) (Y % 4294967296)+rem U (V / 4294967296) (Y / 4294967296) (Y % 4294967296)=U*4294967296+V / 4294967296:=by rw [k1,k2];exact Nat.div_add_mod _ _
 have t:=Wz U (V / 4294967296) (V % 4294967296) Y (by omega)
 obtain ⟨k3,k4⟩:=aB (rem U (V / 4294967296) (Y / 4294967296) (Y % 4294967296)) (V % 4294967296) Y _ _ (Ot Y)
 rw [Ot V,<- k1,<- k2,<- k3] at t
 have T:Hid (_=_):=t.symm
 clear t k1 k2 k3 k4
 have q1:=Sc d1
 have hU':U<18446744073709551616:=by omega
 generalize rem U (V / 4294967296) (Y / 4294967296) (Y % 4294967296)=R at *
 have d0:Da R (V % 4294967296) (Y / 4294967296) (Y % 4294967296):=⟨by omega,by omega,by omega,by omega,by omega⟩
 have q0:=Sc d0
 exact gB hi lo y s Y (Y / 4294967296) (Y % 4294967296) U V (V / 4294967296) (V % 4294967296) R _ _ _ _ _ _ _ w h0 h1 ⟨hy,hs2⟩ hs d1 d0 (Fj d1) (Fj d0) rfl rfl T (by omega) (by omega)
  wY (by omega) (J4 Y hY2) wU wV (by omega) (J4 V hV)
  (MC U _ hU') (P' _ _ _ _ (Fj d1).sum hU')
  (gC _ _ _ _ _ dm (by omega))
  (MC _ _ (by omega)) (P' _ _ _ _ (Fj d0).sum (by omega))
def gF (lo y:Nat) (w:World) (h1:0<y) (hl:lo<18446744073709551616):
 Calls prog 362 #[.int .u64 0,.int .u64 lo,.int .u64 y] w λe w'=>(∃ r:Int,e=.returned (.tuple #[.int .u64 ((lo / y:Nat):Int),.int .u64 r]))/\∃ n,w'=w.drewN n:=by
 have e2:((y:Int)==0)=false:=by simp;omega
 have e4:¬ (y:Int)=0:=by omega
 have hw:IntKind.u64.wrap ((lo:Int) / y)=((lo / y:Nat):Int):=MC lo y hl
 obtain ⟨q,hq⟩:∃ q:Nat,lo / y=q:=⟨_,rfl⟩
 rw [hq] at hw ⊢
 have y1:(1:Int)<=y:=by omega
 clear hq h1 hl
 go_enter func362,ntmps362
 go_wp2
 go_quiet (fail)
 go_wp2
 go_ret2
 exact ⟨⟨_,rfl⟩,_,rfl⟩
def pS (hi lo y:Nat) (w:World) (h1:hi<y) (hy:y<18446744073709551616) (hl:lo<18446744073709551616):
 Calls prog 362 #[.int .u64 hi,.int .u64 lo,.int .u64 y] w λe w'=>(∃ r:Int,e=.returned (.tuple #[.int .u64 (((hi*18446744073709551616+lo) / y:Nat):Int),.int .u64 r]))/\∃ n,w'=w.drewN n:=by
 rcases Nat.eq_zero_or_pos hi with rfl | h0
 ·rw [AEy,ADs]
  exact gF lo y w (by omega) hl
 ·exact (gD hi lo y w h0 h1 hy hl).mono λe w' ⟨h,hw⟩=>⟨h,0,hw⟩
def QA (n b o:Nat) (w:World) (hn:n<18446744073709551616) (hb:b<18446744073709551616) (ho:o<18446744073709551616) (h:n*b / 18446744073709551616<o):
 Calls prog 351 #[.int .u64 n,.int .u64 b,.int .u64 o] w λe w'=>e=.returned (.int .u64 ((n*b / o:Nat):Int))/\∃ n,w'=w.drewN n:=by
 have M:=pR n b hn hb
 have hm:n*b % 18446744073709551616<18446744073709551616:=AE8 _ (by omega)
 have e:n*b / 18446744073709551616*18446744073709551616+n*b % 18446744073709551616=n*b:=by omega
 have D:=λw=>pS (n*b / 18446744073709551616) (n*b % 18446744073709551616) o w h ho hm
 rw [e] at D
 generalize n*b / 18446744073709551616=H at *
 generalize n*b % 18446744073709551616=L at *
 generalize n*b / o=Q at *
 have HM:Hid (∀ w,_):=M
 have HD:Hid (∀ w,_):=D
 clear M D h hm e hn hb ho
 go_enter func351,ntmps351
 go_wp2_with (first | (go_at_call 361;refine (HM.out _).mono ?_;rintro e w' ⟨rfl,rfl⟩) | (go_at_call 362;refine (HD.out _).mono ?_;rintro e w' ⟨⟨r,rfl⟩,k,rfl⟩))
 go_ret
 exact ⟨rfl,_,rfl⟩
def pc (a b:Int):Int:=if a<1\/b<1 then 0 else if b<=a then 100 else ((a.toNat*100 / b.toNat:Nat):Int)
def Tw (a b:Int) (w:World) (ha:a<=9223372036854775807) (hb:b<=9223372036854775807):
 Calls prog 352 #[.int .i64 a,.int .i64 b] w λe w'=>e=.returned (.int .i64 (pc a b))/\∃ n,w'=w.drewN n:=by
 by_cases h1:a<1
 ·go_enter func352,ntmps352
  go_wp2
  go_ret
  exact ⟨Ee (by rw [pc,AHi (by omega)]),0,rfl⟩
 by_cases h2:b<1
 ·go_enter func352,ntmps352
  go_wp2
  go_ret
  exact ⟨Ee (by rw [pc,AHi (by omega)]),0,rfl⟩
 by_cases h3:b<=a
 ·go_enter func352,ntmps352
  go_wp2
  go_ret
  exact ⟨Ee (by rw [pc,AHh (by omega),AHi h3]),0,rfl⟩
 ·obtain ⟨x,rfl⟩:=AD8 (show 0<=a by omega)
  obtain ⟨y,rfl⟩:=AD8 (show 0<=b by omega)
  have hp:pc x y=((x*100 / y:Nat):Int):=by rw [pc,AHh (by omega),AHh h3];rfl
  have hq:x*100 / y<=100:=by
   rw [Nat.div_le_iff_le_mul_add_pred (by omega)]
   omega
  have S:=λw=>QA x 100 y w (by omega) (by omega) (by omega) (by omega)
  rw [hp]
  generalize x*100 / y=Q at *
  have HS:Hid (∀ w,_):=S
  clear S hp
  go_enter func352,ntmps352
  go_wp2_with (go_at_call 351;refine (HS.out _).mono ?_;rintro e w' ⟨rfl,k,rfl⟩)
  go_ret
  exact ⟨rfl,_,rfl⟩
def sc (low high p:Int):Int:=if high<low\/p<1 then low else if 100<=p then high else low+(((high-low).toNat*p.toNat / 100:Nat):Int)
def pT (low high:Int) (h1:-9223372036854775808<=low) (h2:high<=9223372036854775807) (h:low<=high):
 IntKind.u64.wrap (IntKind.u64.wrap high-IntKind.u64.wrap low)=(((high-low).toNat:Nat):Int):=by
 simp only [IntKind.wrap_u64]
 omega
def pU (low s:Int) (h0:0<=s) (h1:-9223372036854775808<=low) (h2:low+s<=9223372036854775807):
 wrap64 (IntKind.u64.wrap (IntKind.u64.wrap low+s))=low+s:=by
 simp only [IntKind.wrap_u64,wrap64]
 omega
def aC (low high p:Int) (w:World) (hl:-9223372036854775808<=low) (hl':low<=9223372036854775807) (hh:-9223372036854775808<=high) (hh':high<=9223372036854775807):
 Calls prog 328 #[.int .i64 low,.int .i64 high,.int .i64 p] w λe w'=>e=.returned (.int .i64 (sc low high p))/\∃ n,w'=w.drewN n:=by
 by_cases h1:high<low
 ·go_enter func328,ntmps328
  go_wp2
  go_ret
  exact ⟨Ee (by rw [sc,AHi (by omega)]),0,rfl⟩
 by_cases h2:p<1
 ·go_enter func328,ntmps328
  go_wp2
  go_ret
  exact ⟨Ee (by rw [sc,AHi (by omega)]),0,rfl⟩
 by_cases h3:100<=p
 ·go_enter func328,ntmps328
  go_wp2
  go_ret
  exact ⟨Ee (by rw [sc,AHh (by omega),AHi h3]),0,rfl⟩
 ·have hw:=pT low high hl hh' (by omega)
  obtain ⟨P,rfl⟩:=AD8 (show 0<=p by omega)
  have hp:sc low high P=low+(((high-low).toNat*P / 100:Nat):Int):=by rw [sc,AHh (by omega),AHh h3];rfl
  have hW:((high-low).toNat:Int)=high-low:=by omega
  obtain ⟨D,hD⟩:∃ D,(high-low).toNat=D:=⟨_,rfl⟩
  rw [hp]
  rw [hD] at hw hW ⊢
  have hP:P<=99:=by omega
  have le:D*P<=D*99:=Nat.mul_le_mul_left D hP
  have b:D*P / 18446744073709551616<100:=by omega
  have S:=λw=>QA D P 100 w (by omega) (by omega) (by omega) b
  have sq:D*P / 100<=D:=by omega
  have sv:=pU low ((D*P / 100:Nat):Int) (by omega) hl (by omega)
  generalize D*P / 100=Q at *
  have HS:Hid (∀ w,_):=S
  have HV:Hid (_=_):=sv
  clear S hp hD hW le b sv
  go_enter func328,ntmps328
  go_wp2_with (go_at_call 351;refine (HS.out _).mono ?_;rintro e w' ⟨rfl,k,rfl⟩)
  go_ret
  exact ⟨Ee HV.out,_,rfl⟩
structure Fq where
 b:Int
 a:Int
def fz:Fq:=⟨0,0⟩
def fq:Hj Fq where
 n:=2
 f:=λx=>[.int .i64 x.b,.int .i64 x.a]
 z:=fz
 len:=λ_=>rfl
 one:=λx u hu=>by
  simp only [AD0,ADt,or_false] at hu
  rcases hu with rfl | rfl <;> rfl
 pos:=by decide
def Fb (x:Fq):Prop:=0<=x.b/\x.b<=x.a/\x.a<=1099511627776
def sb:List Fq->Int
 | []=>0
 | x::r=>x.b+sb r
def sa:List Fq->Int
 | []=>0
 | x::r=>x.a+sa r
def Sd (X Y:List Fq):sb (X++Y)=sb X+sb Y:=by
 induction X with
 | nil=>simp [sb]
 | cons x r ih=>rw [ADo,sb,sb,ih];omega
def Se (X Y:List Fq):sa (X++Y)=sa X+sa Y:=by
 induction X with
 | nil=>simp [sa]
 | cons x r ih=>rw [ADo,sa,sa,ih];omega
def aD (Y:List Fq) (h:∀ x∈Y,Fb x):0<=sb Y/\sb Y<=sa Y/\sa Y<=1099511627776*(Y.length:Int):=by
 induction Y with
 | nil=>simp [sb,sa]
 | cons x r ih=>
  have a:=ih λy hy=>h y (by simp [hy])
  have b:=h x (by simp)
  unfold Fb at b
  simp only [sb,sa,ADy]
  omega
def arr (p:Nat) (q:List Fq):List Fq:=q.drop (4-p)++q.take (4-p)
def yC (p:Nat) (q:List Fq):sb (arr p q)=sb q:=by
 have:sb (q.take (4-p)++q.drop (4-p))=sb q:=by rw [AFC]
 rw [Sd] at this
 rw [arr,Sd]
 omega
def yD (p:Nat) (q:List Fq):sa (arr p q)=sa q:=by
 have:sa (q.take (4-p)++q.drop (4-p))=sa q:=by rw [AFC]
 rw [Se] at this
 rw [arr,Se]
 omega
def pV {q:List Fq} (h:q.length=4):(arr p q).length=4:=by
 rw [arr,ADa,AE5,AEW]
 omega
def VQ {q:List Fq} (h:q.length=4):∃ a b c d,q=[a,b,c,d]:=by
 match q,h with
 | [a,b,c,d],_=>exact ⟨a,b,c,d,rfl⟩
def C7 (q:List Fq) (x:Fq):List Fq:=q.drop 1++[x]
def pW {q:List Fq} (h:q.length=4) (x:Fq):(C7 q x).length=4:=by
 rw [C7,ADa,AE5,h]
 rfl
def yE {q:List Fq} {x:Fq} (h:∀ y∈q,Fb y) (hx:Fb x):∀ y∈C7 q x,Fb y:=by
 intro y hy
 rcases ADi.1 hy with e | e
 ·exact h y (AFp e)
 ·rw [ADu.1 e];exact hx
def lf (Y:List Fq):List Fq:=(List.replicate 4 fz++Y).drop Y.length
def JR (lo hi:Int):Prop:=1<=lo/\lo<=hi/\hi<=100000
def bz (q:List Fq):Int:=pc (sb q) (sa q)
def fr (lo hi:Int) (q:List Fq):Int:=sc lo hi (bz q)
structure PG (w:World) (s:Nat) (lo hi:Int) (q:List Fq) (p:Nat):Prop where
 sb:AB w s ([.int .i64 lo,.int .i64 hi]++fq.all (arr p q)++[.int .i64 (p:Int)]) 192
 ln:q.length=4
 pl:p<4
 ok:∀ x∈q,Fb x
section
variable {w w1:World} {s p:Nat} {lo hi:Int} {q:List Fq}
def PG.heap (h:PG w s lo hi q p) (e:w1.heap=w.heap):PG w1 s lo hi q p:=⟨h.sb.heap e,h.ln,h.pl,h.ok⟩
def PG.AA {B:Nat} {S:List Nat} (h:PG w s lo hi q p) (k:Fr B S w w1) (hb:s<B) (hs:s∉S):PG w1 s lo hi q p:=⟨h.sb.AA k hb hs,h.ln,h.pl,h.ok⟩
def PG.below (h:PG w s lo hi q p) (k:Below w.heap.size w w1):PG w1 s lo hi q p:=h.AA (Fr.AE k) h.sb.lt (by simp)
def PG.c0 (h:PG w s lo hi q p):w.cell? ⟨s,0,none⟩=some (.int .i64 lo):=h.sb.cell 0
def PG.c1 (h:PG w s lo hi q p):w.cell? ⟨s,1,none⟩=some (.int .i64 hi):=h.sb.cell 1
def PG.f0 (h:PG w s lo hi q p):w.frozen? ⟨s,0,none⟩=false:=h.sb.free 0
def PG.f1 (h:PG w s lo hi q p):w.frozen? ⟨s,1,none⟩=false:=h.sb.free 1
def Jr (h:PG w s lo hi q p) (a b:Int):PG ((w.setCell ⟨s,0,none⟩ (.int .i64 a)).setCell ⟨s,1,none⟩ (.int .i64 b)) s a b q p:=
 ⟨(h.sb.set 0 _).set 1 _,h.ln,h.pl,h.ok⟩
end
def aE (x0 x1 x2 x3:Fq) (k:Nat) (h:k<4) (w:World):(Instr.index 190 (.agg #[.int .i64 x0.b,.int .i64 x0.a,.int .i64 x1.b,.int .i64 x1.a,.int .i64 x2.b,.int .i64 x2.a,.int .i64 x3.b,.int .i64 x3.a]) (.int .i64 (k:Int))).run prog w=.ok (.agg #[.int .i64 ([x0,x1,x2,x3].getD k fz).b,.int .i64 ([x0,x1,x2,x3].getD k fz).a]) w:=by
 obtain rfl | rfl | rfl | rfl:k=0\/k=1\/k=2\/k=3:=by omega
 all_goals rfl
def aF {q:List Fq} (w:World) (h:PG w s lo hi q p):
 Calls prog 329 #[.pointer (some ⟨s,0,none⟩)] w λe w'=>e=.returned (.int .i64 (bz q))/\Below w.heap.size w w':=by
 have hq:bz q=pc (sb (arr p q)) (sa (arr p q)):=by rw [yC,yD,bz]
 rw [hq]
 have hk:∀ x∈arr p q,Fb x:=λx hx=>by
  rcases ADi.1 hx with e | e
  ·exact h.ok x (AFp e)
  ·exact h.ok x (AFZ e)
 have hb:=h.sb
 have al:=pV (p:=p) h.ln
 obtain ⟨x0,x1,x2,x3,e⟩:=VQ al
 have ha:=hb.alloc (.cells #[.int .i64 0,.int .i64 0] 189)
 rw [e] at ha
 have c2:(w.alloc (.cells #[.int .i64 0,.int .i64 0] 189)).cell? ⟨s,2,none⟩=some (.int .i64 x0.b):=ha.cell 2
 have c3:(w.alloc (.cells #[.int .i64 0,.int .i64 0] 189)).cell? ⟨s,3,none⟩=some (.int .i64 x0.a):=ha.cell 3
 have c4:(w.alloc (.cells #[.int .i64 0,.int .i64 0] 189)).cell? ⟨s,4,none⟩=some (.int .i64 x1.b):=ha.cell 4
 have c5:(w.alloc (.cells #[.int .i64 0,.int .i64 0] 189)).cell? ⟨s,5,none⟩=some (.int .i64 x1.a):=ha.cell 5
 have c6:(w.alloc (.cells #[.int .i64 0,.int .i64 0] 189)).cell? ⟨s,6,none⟩=some (.int .i64 x2.b):=ha.cell 6
 have c7:(w.alloc (.cells #[.int .i64 0,.int .i64 0] 189)).cell? ⟨s,7,none⟩=some (.int .i64 x2.a):=ha.cell 7
 have c8:(w.alloc (.cells #[.int .i64 0,.int .i64 0] 189)).cell? ⟨s,8,none⟩=some (.int .i64 x3.b):=ha.cell 8
 have c9:(w.alloc (.cells #[.int .i64 0,.int .i64 0] 189)).cell? ⟨s,9,none⟩=some (.int .i64 x3.a):=ha.cell 9
 have HI:Hid (∀ k,k<4->∀ w,_):=λk hk w=>aE x0 x1 x2 x3 k hk w
 rw [<- e] at HI
 generalize arr p q=A at *
 have HA:Hid (A.length=4/\∀ x∈A,Fb x):=⟨al,hk⟩
 have hin:=aD A hk
 rw [al] at hin
 have C:Hid (∀ w,_):=λw=>Tw (sb A) (sa A) w (by omega) (by omega)
 generalize pc (sb A) (sa A)=ans at *
 have HT:Hid (A.take 4=A):=AFS (by omega)
 generalize x0.b=b0 at *
 generalize x0.a=a0 at *
 generalize x1.b=b1 at *
 generalize x1.a=a1 at *
 generalize x2.b=b2 at *
 generalize x2.a=a2 at *
 generalize x3.b=b3 at *
 generalize x3.a=a3 at *
 clear h hq hk hb al e ha hin
 have S0:Hid (AB (w.alloc (.cells #[.int .i64 0,.int .i64 0] 189)) w.heap.size [.int .i64 0,.int .i64 0] 189/\Below w.heap.size w (w.alloc (.cells #[.int .i64 0,.int .i64 0] 189))):=⟨AB.new w [.int .i64 0,.int .i64 0] _,(Below.refl _ _).alloc (ADW _) _⟩
 obtain ⟨z,hz⟩:∃ z,w.heap.size=z:=⟨_,rfl⟩
 rw [hz] at S0 ⊢
 go_enter func329,ntmps329
 go_wp2
 go_loopw [12] (λi wr=>∃ k:Nat,(k:Int)<=4/\AB wr z [.int .i64 (sb (A.take k)),.int .i64 (sa (A.take k))] 189/\Below z w wr/\i=.int .i64 k) (λi _=>4-(intOf i).toNat)
 case atStart=>exact ⟨0,by omega,S0.out.1,S0.out.2,rfl⟩
 case round=>
  obtain ⟨k,hk,hs,hl,rfl⟩:=hrel
  clear S0 c2 c3 c4 c5 c6 c7 c8 c9
  have hzl:Hid (z<wr.heap.size):=hs.lt
  by_cases e:(k:Int)<4
  ·have hx:=HI.out k (by omega) wr
   have hkA:k<A.length:=by have:=HA.out.1;omega
   have ht:=Xu A fz hkA
   have EX:Hid (sb (A.take (k+1))=sb (A.take k)+(A.getD k fz).b):=by
    show sb _=_
    rw [ht,Sd];simp [sb]
   have EY:Hid (sa (A.take (k+1))=sa (A.take k)+(A.getD k fz).a):=by
    show sa _=_
    rw [ht,Se];simp [sa]
   have i1:=aD (A.take k) λx hx=>HA.out.2 x (AFZ hx)
   have i2:Fb (A.getD k fz):=HA.out.2 _ (by simp [List.getD,hkA])
   unfold Fb at i2
   rw [AEW] at i1
   have hmin:((min k A.length:Nat):Int)<=4:=by omega
   have i3:sa (A.take k)<=4398046511104:=by omega
   have ha:=hs.alloc (.cells #[.int .i64 (A.getD k fz).b,.int .i64 (A.getD k fz).a] 189)
   generalize A.getD k fz=x at *
   obtain ⟨b,a⟩:=x
   dsimp only at hx EX EY i2 ha
   generalize sb (A.take k)=X at *
   generalize sa (A.take k)=Y at *
   have hX:0<=X/\X<=4398046511104:=by omega
   have hY:0<=Y/\Y<=4398046511104:=by omega
   have hb:0<=b/\b<=1099511627776:=by omega
   have hc:0<=a/\a<=1099511627776:=by omega
   have t0:=ha.cell 0
   have t1:=ha.cell 1
   have f0:=ha.free 0
   have f1:=ha.free 1
   have G:Hid (∀ x y,AB (((wr.alloc (.cells #[.int .i64 b,.int .i64 a] 189)).setCell ⟨z,0,none⟩ x).setCell ⟨z,1,none⟩ y) z [x,y] 189/\Below z w (((wr.alloc (.cells #[.int .i64 b,.int .i64 a] 189)).setCell ⟨z,0,none⟩ x).setCell ⟨z,1,none⟩ y)):=λx y=>⟨(ha.set 0 x).set 1 y,((hl.alloc (AFL hzl.out) _).setCell (ADW _) _).setCell (ADW _) _⟩
   clear hs hl ha hk hkA ht i1 i2 i3 hmin
   go_wp2
   go_roundw
   case rel=>exact ⟨k+1,by omega,by rw [EX.out,EY.out];exact (G.out _ _).1,(G.out _ _).2,by go_num⟩
   case measure=>simp [intOf];omega
  ·obtain rfl:k=4:=by omega
   rw [HT.out] at hs
   have t0:=hs.cell 0
   have t1:=hs.cell 1
   have HL:Hid (Below z w wr):=hl
   clear hs hl hk
   go_wp2_with fail
   refine (C.out _).mono ?_
   rintro e w' ⟨rfl,n,rfl⟩
   go_wp2
   go_ret
   exact ⟨rfl,HL.out.os,HL.out.tape,HL.out.output,HL.out.size,HL.out.block⟩
def E' {q:List Fq} (w:World) (h:PG w s lo hi q p) (hl:JR lo hi):
 Calls prog 275 #[.pointer (some ⟨s,0,none⟩)] w λe w'=>e=.returned (.int .i64 (fr lo hi q))/\Below w.heap.size w w':=by
 have c0:=h.c0
 have c1:=h.c1
 have HP:Hid (PG w s lo hi q p):=h
 unfold JR at hl
 have C1:Hid (∀ u,PG u s lo hi q p->_):=λu t=>aF u t
 have C2:Hid (∀ w,_):=λw=>aC lo hi (bz q) w (by omega) (by omega) (by omega) (by omega)
 rw [show sc lo hi (bz q)=fr lo hi q from rfl] at C2
 generalize fr lo hi q=ans at *
 generalize bz q=y at *
 clear h hl
 go_enter func275,ntmps275
 go_wp2_with fail
 go_region_held3 (λw'=>w'.cell? ⟨s,0,none⟩=some (.int .i64 lo)/\w'.cell? ⟨s,1,none⟩=some (.int .i64 hi)) (go_keep)
  (first | (go_at_call 329;refine (C1.out _ ?_).mono ?_;exact HP.out.heap rfl;rintro e w' ⟨rfl,bq⟩;have bz:Below w.heap.size w w':=⟨bq.os,bq.tape,bq.output,bq.size,bq.block⟩;have BZ:Hid (Below w.heap.size w w'):=bz;have c0:=(HP.out.below bz).c0;have c1:=(HP.out.below bz).c1;clear bz bq) | (go_at_call 328;refine (C2.out _).mono ?_;rintro e w2 ⟨rfl,n,rfl⟩))
 go_wp2
 go_ret
 exact ⟨rfl,BZ.out.os,BZ.out.tape,BZ.out.output,BZ.out.size,BZ.out.block⟩
def gG (a b:Int) (w:World) (hl:¬ JR a b):
 Calls prog 70 #[.pointer (some ⟨s,0,none⟩),.int .i64 a,.int .i64 b] w λe w'=>e=.returned (.int .i64 2)/\w'=w:=by
 unfold JR at hl
 by_cases h1:a<1
 ·clear hl
  go_enter func70,ntmps70
  go_wp2
  go_ret
  exact ⟨rfl,rfl⟩
 by_cases h2:b<a
 ·clear hl
  go_enter func70,ntmps70
  go_wp2
  go_ret
  exact ⟨rfl,rfl⟩
 have h3:100000<b:=by omega
 clear hl
 go_enter func70,ntmps70
 go_wp2
 go_ret
 exact ⟨rfl,rfl⟩
def VR {q:List Fq} (a b:Int) (w:World) (h:PG w s lo hi q p) (hl:JR a b):
 Calls prog 70 #[.pointer (some ⟨s,0,none⟩),.int .i64 a,.int .i64 b] w λe w'=>e=.returned (.int .i64 0)/\PG w' s a b q p/\Fr w.heap.size [s] w w':=by
 have f0:=h.f0
 have f1:=h.f1
 have c0:=h.c0
 have c1:=h.c1
 have G:Hid _:=Jr h a b
 have F:Hid (∀ u v,Fr w.heap.size [s] w ((w.setCell ⟨s,0,none⟩ u).setCell ⟨s,1,none⟩ v)):=λu v=>((Fr.refl _ _ _).setCell (Or.inr (by simp)) _).setCell (Or.inr (by simp)) _
 unfold JR at hl
 obtain ⟨l1,l2,l3⟩:=hl
 clear h
 go_enter func70,ntmps70
 go_wp2
 go_ret
 exact ⟨rfl,G.out,F.out _ _⟩
def aG (a b:Int) (w:World) (hl:¬ Fb ⟨a,b⟩):
 Calls prog 271 #[.pointer (some ⟨s,0,none⟩),.int .i64 a,.int .i64 b] w λe w'=>e=.returned (.tuple #[.int .i64 0,.int .i64 2])/\w'=w:=by
 unfold Fb at hl
 dsimp only at hl
 by_cases h1:a<0
 ·clear hl
  go_enter func271,ntmps271
  go_wp2
  go_ret2
  exact ⟨rfl,rfl⟩
 by_cases h2:b<a
 ·clear hl
  go_enter func271,ntmps271
  go_wp2
  go_ret2
  exact ⟨rfl,rfl⟩
 have h3:1099511627776<b:=by omega
 clear hl
 go_enter func271,ntmps271
 go_wp2
 go_ret2
 exact ⟨rfl,rfl⟩
def gH {q:List Fq} (a b:Int) (w:World) (h:PG w s lo hi q p) (hl:JR lo hi) (hx:Fb ⟨a,b⟩):
 Calls prog 271 #[.pointer (some ⟨s,0,none⟩),.int .i64 a,.int .i64 b] w λe w'=>e=.returned (.tuple #[.int .i64 (fr lo hi (C7 q ⟨a,b⟩)),.int .i64 0])/\PG w' s lo hi (C7 q ⟨a,b⟩) ((p+1) % 4)/\Fr w.heap.size [s] w w':=by
 have HO:Hid (∀ y∈C7 q ⟨a,b⟩,Fb y):=yE h.ok hx
 have HN:Hid ((C7 q ⟨a,b⟩).length=4):=pW h.ln _
 have HL:Hid (JR lo hi):=hl
 have hb:=h.sb
 have hp:=h.pl
 obtain ⟨x0,x1,x2,x3,rfl⟩:=VQ h.ln
 unfold Fb at hx
 dsimp only at hx
 obtain ⟨l1,l2,l3⟩:=hx
 clear h hl
 obtain rfl | rfl | rfl | rfl:p=0\/p=1\/p=2\/p=3:=by omega
 ·have c0:=hb.cell 10
  have f0:=hb.free 2
  have f1:=hb.free 3
  have f2:=hb.free 10
  have cz:w.cell? ⟨s,10,none⟩=some (.int .i64 0):=c0
  have cx:∃ u,w.cell? ⟨s,2,none⟩=some u:=⟨_,hb.cell 2⟩
  have cy:∃ u,w.cell? ⟨s,3,none⟩=some u:=⟨_,hb.cell 3⟩
  obtain ⟨ux,cx⟩:=cx
  obtain ⟨uy,cy⟩:=cy
  have G:Hid (PG (((w.setCell ⟨s,2,none⟩ (.int .i64 a)).setCell ⟨s,3,none⟩ (.int .i64 b)).setCell ⟨s,10,none⟩ (.int .i64 1)) s lo hi (C7 [x0,x1,x2,x3] ⟨a,b⟩) ((0+1) % 4)):=⟨((hb.set 2 _).set 3 _).set 10 _,HN.out,by decide,HO.out⟩
  have F:Hid (Fr w.heap.size [s] w (((w.setCell ⟨s,2,none⟩ (.int .i64 a)).setCell ⟨s,3,none⟩ (.int .i64 b)).setCell ⟨s,10,none⟩ (.int .i64 1))):=(((Fr.refl _ _ _).setCell (Or.inr (by simp)) _).setCell (Or.inr (by simp)) _).setCell (Or.inr (by simp)) _
  have C:Hid (∀ u,PG u s lo hi (C7 [x0,x1,x2,x3] ⟨a,b⟩) ((0+1) % 4)->_):=λu t=>E' u t HL.out
  generalize fr lo hi (C7 [x0,x1,x2,x3] ⟨a,b⟩)=ans at *
  clear hb hp c0
  go_enter func271,ntmps271
  go_wp2_with fail
  go_region
  go_wp2_with fail
  refine (C.out _ ?_).mono ?_
  ·exact G.out.heap rfl
  rintro e w' ⟨rfl,bz⟩
  have bq:Below (((w.setCell ⟨s,2,none⟩ (.int .i64 a)).setCell ⟨s,3,none⟩ (.int .i64 b)).setCell ⟨s,10,none⟩ (.int .i64 1)).heap.size (((w.setCell ⟨s,2,none⟩ (.int .i64 a)).setCell ⟨s,3,none⟩ (.int .i64 b)).setCell ⟨s,10,none⟩ (.int .i64 1)) w':=⟨bz.os,bz.tape,bz.output,bz.size,bz.block⟩
  have H:Hid (PG w' s lo hi (C7 [x0,x1,x2,x3] ⟨a,b⟩) ((0+1) % 4)/\Fr w.heap.size [s] w w'):=⟨G.out.below bq,F.out.trans ((Fr.AE bq).mono F.out.size (λ_ _ _=>by simp))⟩
  clear bz
  clear bq
  go_wp2
  go_ret2
  exact ⟨rfl,H.out.1,H.out.2⟩
 ·have c0:=hb.cell 10
  have f0:=hb.free 4
  have f1:=hb.free 5
  have f2:=hb.free 10
  have cz:w.cell? ⟨s,10,none⟩=some (.int .i64 1):=c0
  have cx:∃ u,w.cell? ⟨s,4,none⟩=some u:=⟨_,hb.cell 4⟩
  have cy:∃ u,w.cell? ⟨s,5,none⟩=some u:=⟨_,hb.cell 5⟩
  obtain ⟨ux,cx⟩:=cx
  obtain ⟨uy,cy⟩:=cy
  have G:Hid (PG (((w.setCell ⟨s,4,none⟩ (.int .i64 a)).setCell ⟨s,5,none⟩ (.int .i64 b)).setCell ⟨s,10,none⟩ (.int .i64 2)) s lo hi (C7 [x0,x1,x2,x3] ⟨a,b⟩) ((1+1) % 4)):=⟨((hb.set 4 _).set 5 _).set 10 _,HN.out,by decide,HO.out⟩
  have F:Hid (Fr w.heap.size [s] w (((w.setCell ⟨s,4,none⟩ (.int .i64 a)).setCell ⟨s,5,none⟩ (.int .i64 b)).setCell ⟨s,10,none⟩ (.int .i64 2))):=(((Fr.refl _ _ _).setCell (Or.inr (by simp)) _).setCell (Or.inr (by simp)) _).setCell (Or.inr (by simp)) _
  have C:Hid (∀ u,PG u s lo hi (C7 [x0,x1,x2,x3] ⟨a,b⟩) ((1+1) % 4)->_):=λu t=>E' u t HL.out
  generalize fr lo hi (C7 [x0,x1,x2,x3] ⟨a,b⟩)=ans at *
  clear hb hp c0
  go_enter func271,ntmps271
  go_wp2_with fail
  go_region
  go_wp2_with fail
  refine (C.out _ ?_).mono ?_
  ·exact G.out.heap rfl
  rintro e w' ⟨rfl,bz⟩
  have bq:Below (((w.setCell ⟨s,4,none⟩ (.int .i64 a)).setCell ⟨s,5,none⟩ (.int .i64 b)).setCell ⟨s,10,none⟩ (.int .i64 2)).heap.size (((w.setCell ⟨s,4,none⟩ (.int .i64 a)).setCell ⟨s,5,none⟩ (.int .i64 b)).setCell ⟨s,10,none⟩ (.int .i64 2)) w':=⟨bz.os,bz.tape,bz.output,bz.size,bz.block⟩
  have H:Hid (PG w' s lo hi (C7 [x0,x1,x2,x3] ⟨a,b⟩) ((1+1) % 4)/\Fr w.heap.size [s] w w'):=⟨G.out.below bq,F.out.trans ((Fr.AE bq).mono F.out.size (λ_ _ _=>by simp))⟩
  clear bz
  clear bq
  go_wp2
  go_ret2
  exact ⟨rfl,H.out.1,H.out.2⟩
 ·have c0:=hb.cell 10
  have f0:=hb.free 6
  have f1:=hb.free 7
  have f2:=hb.free 10
  have cz:w.cell? ⟨s,10,none⟩=some (.int .i64 2):=c0
  have cx:∃ u,w.cell? ⟨s,6,none⟩=some u:=⟨_,hb.cell 6⟩
  have cy:∃ u,w.cell? ⟨s,7,none⟩=some u:=⟨_,hb.cell 7⟩
  obtain ⟨ux,cx⟩:=cx
  obtain ⟨uy,cy⟩:=cy
  have G:Hid (PG (((w.setCell ⟨s,6,none⟩ (.int .i64 a)).setCell ⟨s,7,none⟩ (.int .i64 b)).setCell ⟨s,10,none⟩ (.int .i64 3)) s lo hi (C7 [x0,x1,x2,x3] ⟨a,b⟩) ((2+1) % 4)):=⟨((hb.set 6 _).set 7 _).set 10 _,HN.out,by decide,HO.out⟩
  have F:Hid (Fr w.heap.size [s] w (((w.setCell ⟨s,6,none⟩ (.int .i64 a)).setCell ⟨s,7,none⟩ (.int .i64 b)).setCell ⟨s,10,none⟩ (.int .i64 3))):=(((Fr.refl _ _ _).setCell (Or.inr (by simp)) _).setCell (Or.inr (by simp)) _).setCell (Or.inr (by simp)) _
  have C:Hid (∀ u,PG u s lo hi (C7 [x0,x1,x2,x3] ⟨a,b⟩) ((2+1) % 4)->_):=λu t=>E' u t HL.out
  generalize fr lo hi (C7 [x0,x1,x2,x3] ⟨a,b⟩)=ans at *
  clear hb hp c0
  go_enter func271,ntmps271
  go_wp2_with fail
  go_region
  go_wp2_with fail
  refine (C.out _ ?_).mono ?_
  ·exact G.out.heap rfl
  rintro e w' ⟨rfl,bz⟩
  have bq:Below (((w.setCell ⟨s,6,none⟩ (.int .i64 a)).setCell ⟨s,7,none⟩ (.int .i64 b)).setCell ⟨s,10,none⟩ (.int .i64 3)).heap.size (((w.setCell ⟨s,6,none⟩ (.int .i64 a)).setCell ⟨s,7,none⟩ (.int .i64 b)).setCell ⟨s,10,none⟩ (.int .i64 3)) w':=⟨bz.os,bz.tape,bz.output,bz.size,bz.block⟩
  have H:Hid (PG w' s lo hi (C7 [x0,x1,x2,x3] ⟨a,b⟩) ((2+1) % 4)/\Fr w.heap.size [s] w w'):=⟨G.out.below bq,F.out.trans ((Fr.AE bq).mono F.out.size (λ_ _ _=>by simp))⟩
  clear bz
  clear bq
  go_wp2
  go_ret2
  exact ⟨rfl,H.out.1,H.out.2⟩
 ·have c0:=hb.cell 10
  have f0:=hb.free 8
  have f1:=hb.free 9
  have f2:=hb.free 10
  have cz:w.cell? ⟨s,10,none⟩=some (.int .i64 3):=c0
  have cx:∃ u,w.cell? ⟨s,8,none⟩=some u:=⟨_,hb.cell 8⟩
  have cy:∃ u,w.cell? ⟨s,9,none⟩=some u:=⟨_,hb.cell 9⟩
  obtain ⟨ux,cx⟩:=cx
  obtain ⟨uy,cy⟩:=cy
  have G:Hid (PG (((w.setCell ⟨s,8,none⟩ (.int .i64 a)).setCell ⟨s,9,none⟩ (.int .i64 b)).setCell ⟨s,10,none⟩ (.int .i64 0)) s lo hi (C7 [x0,x1,x2,x3] ⟨a,b⟩) ((3+1) % 4)):=⟨((hb.set 8 _).set 9 _).set 10 _,HN.out,by decide,HO.out⟩
  have F:Hid (Fr w.heap.size [s] w (((w.setCell ⟨s,8,none⟩ (.int .i64 a)).setCell ⟨s,9,none⟩ (.int .i64 b)).setCell ⟨s,10,none⟩ (.int .i64 0))):=(((Fr.refl _ _ _).setCell (Or.inr (by simp)) _).setCell (Or.inr (by simp)) _).setCell (Or.inr (by simp)) _
  have C:Hid (∀ u,PG u s lo hi (C7 [x0,x1,x2,x3] ⟨a,b⟩) ((3+1) % 4)->_):=λu t=>E' u t HL.out
  generalize fr lo hi (C7 [x0,x1,x2,x3] ⟨a,b⟩)=ans at *
  clear hb hp c0
  go_enter func271,ntmps271
  go_wp2_with fail
  go_region
  go_wp2_with fail
  refine (C.out _ ?_).mono ?_
  ·exact G.out.heap rfl
  rintro e w' ⟨rfl,bz⟩
  have bq:Below (((w.setCell ⟨s,8,none⟩ (.int .i64 a)).setCell ⟨s,9,none⟩ (.int .i64 b)).setCell ⟨s,10,none⟩ (.int .i64 0)).heap.size (((w.setCell ⟨s,8,none⟩ (.int .i64 a)).setCell ⟨s,9,none⟩ (.int .i64 b)).setCell ⟨s,10,none⟩ (.int .i64 0)) w':=⟨bz.os,bz.tape,bz.output,bz.size,bz.block⟩
  have H:Hid (PG w' s lo hi (C7 [x0,x1,x2,x3] ⟨a,b⟩) ((3+1) % 4)/\Fr w.heap.size [s] w w'):=⟨G.out.below bq,F.out.trans ((Fr.AE bq).mono F.out.size (λ_ _ _=>by simp))⟩
  clear bz
  clear bq
  go_wp2
  go_ret2
  exact ⟨rfl,H.out.1,H.out.2⟩
def pX (w:World):PG (w.alloc (.cells #[.int .i64 0,.int .i64 0,.int .i64 0,.int .i64 0,.int .i64 0,.int .i64 0,.int .i64 0,.int .i64 0,.int .i64 0,.int .i64 0,.int .i64 0] 192)) w.heap.size 0 0 (lf []) 0:=
 ⟨AB.new w [.int .i64 0,.int .i64 0,.int .i64 0,.int .i64 0,.int .i64 0,.int .i64 0,.int .i64 0,.int .i64 0,.int .i64 0,.int .i64 0,.int .i64 0] _,rfl,by decide,λx hx=>by
  have:x=fz:=by simpa [lf] using hx
  rw [this]
  exact ⟨by decide,by decide,by decide⟩⟩
def pY (a b:Int) (w:World) (hl:JR a b):
 Calls prog 38 #[.int .i64 a,.int .i64 b] w λe w'=>e=.returned (.tuple #[.pointer (some ⟨w.heap.size,0,none⟩),.int .i64 0])/\PG w' w.heap.size a b (lf []) 0/\Below w.heap.size w w':=by
 have B:Hid (Below w.heap.size w (w.alloc (.cells #[.int .i64 0,.int .i64 0,.int .i64 0,.int .i64 0,.int .i64 0,.int .i64 0,.int .i64 0,.int .i64 0,.int .i64 0,.int .i64 0,.int .i64 0] 192))):=(Below.refl _ _).alloc (ADW _) _
 have C:Hid (∀ _:Unit,_):=λ_=>VR a b _ (pX w) hl
 clear hl
 go_enter func38,ntmps38
 go_wp2_with fail
 refine (C.out ()).mono ?_
 rintro e w' ⟨rfl,g,f⟩
 have G:Hid (PG w' w.heap.size a b (lf []) 0/\Below w.heap.size w w'):=⟨g,tW B.out f (by simp) (by simp)⟩
 clear g f
 go_wp2
 go_ret2
 exact ⟨rfl,G.out.1,G.out.2⟩
end Go.Proofs.YtdlhlfpigcgapaaGreatDoor.Frq

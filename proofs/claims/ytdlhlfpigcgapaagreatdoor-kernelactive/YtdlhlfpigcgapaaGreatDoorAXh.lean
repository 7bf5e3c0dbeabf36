import Derived.Test.YtdlhlfpigcgapaaGreatDoorAZal
import Derived.Test.YtdlhlfpigcgapaaGreatDoorAXa
import Derived.Maps.OwnSet
import Derived.Carry
import Derived.WalkSpells
set_option maxRecDepth 100000
set_option maxHeartbeats 16000000
set_option linter.unusedVariables false
set_option linter.unusedSimpArgs false
set_option linter.defProp false
namespace Go.Proofs.YtdlhlfpigcgapaaGreatDoor.Rm
open Go.Proofs.Tryz
variable {d n:Nat}
def ov (n d:Nat) (bk:Bool):Bool:=if bk then d==0 else d==n
def DX (n d:Nat) (bk:Bool):Nat:=if bk then d-1 else if d==n then 0 else d
def Jz (n d:Nat) (bk:Bool):Int:=if ov n d bk then 6 else 0
def E9 (n d:Nat) (bk:Bool):Nat:=if ov n d bk then d else if bk then d-1 else d+1
def LZ (n d:Nat) (bk:Bool):Int:=if bk || ov n d bk then 6 else 0
def La (n d:Nat) (bk:Bool):Bool:=bk || !ov n d bk
def Lb (n d:Nat) (bk:Bool):Int:=if ov n d bk then (if bk then 11 else 0) else 7
def four (bk:Bool) (h:d<=n):(bk=true/\d=0)\/(bk=true/\0<d)\/(bk=false/\d<n)\/(bk=false/\d=n):=by
 cases bk
 ·rcases Nat.lt_or_ge d n with l | l
  ·exact Or.inr (Or.inr (Or.inl ⟨rfl,l⟩))
  ·exact Or.inr (Or.inr (Or.inr ⟨rfl,by omega⟩))
 ·rcases Nat.eq_zero_or_pos d with l | l
  ·exact Or.inl ⟨rfl,l⟩
  ·exact Or.inr (Or.inl ⟨rfl,l⟩)
def Ql (n:Nat):ov n 0 true=true:=rfl
def MA (h:0<d):ov n d true=false:=by simp [ov];omega
def Gc (h:d<n):ov n d false=false:=by simp [ov];omega
def I5 (n:Nat):ov n n false=true:=by simp [ov]
def Qn (n:Nat):DX n 0 true=0:=rfl
def ACv (n d:Nat):DX n d true=d-1:=rfl
def fT (h:d<n):DX n d false=d:=by
 have:d≠n:=by omega
 simp [DX,this]
def Wu (n:Nat):DX n n false=0:=by simp [DX]
end Go.Proofs.YtdlhlfpigcgapaaGreatDoor.Rm
namespace Go.Proofs.YtdlhlfpigcgapaaGreatDoor.Hot
open Go.Proofs.Tryz
open Go.ChangeShapes Go.WideShapes Go.ChangeAt Go.RowKit
open Rm
variable {bk:Bool} {b d n:Nat}
structure RN (w:World) (b n d:Nat) (bk:Bool):Prop where
 sb:AB w b [.int .i64 (n:Int),.int .i64 (d:Int),.bool bk] 301
 n1:1<=n
 n2:n<=64
 dn:d<=n
section
variable {w w1:World} {b n d:Nat} {bk:Bool}
def RN.c0 (q:RN w b n d bk):w.cell? ⟨b,0,none⟩=some (.int .i64 (n:Int)):=q.sb.cell 0
def RN.c1 (q:RN w b n d bk):w.cell? ⟨b,1,none⟩=some (.int .i64 (d:Int)):=q.sb.cell 1
def RN.c2 (q:RN w b n d bk):w.cell? ⟨b,2,none⟩=some (.bool bk):=q.sb.cell 2
def RN.f1 (q:RN w b n d bk):w.frozen? ⟨b,1,none⟩=false:=q.sb.free 1
def RN.f2 (q:RN w b n d bk):w.frozen? ⟨b,2,none⟩=false:=q.sb.free 2
def RN.heap (q:RN w b n d bk) (e:w1.heap=w.heap):RN w1 b n d bk:=⟨q.sb.heap e,q.n1,q.n2,q.dn⟩
def RN.AA {B:Nat} {S:List Nat} (q:RN w b n d bk) (k:Fr B S w w1) (hb:b<B) (hs:b∉S):RN w1 b n d bk:=⟨q.sb.AA k hb hs,q.n1,q.n2,q.dn⟩
def xM (q:RN w b n d bk) (x:Nat) (hx:x<=n):RN (w.setCell ⟨b,1,none⟩ (.int .i64 (x:Int))) b n x bk:=⟨q.sb.set 1 _,q.n1,q.n2,hx⟩
def ACw (q:RN w b n d bk) (x:Bool):RN (w.setCell ⟨b,2,none⟩ (.bool x)) b n d x:=⟨q.sb.set 2 _,q.n1,q.n2,q.dn⟩
end
def GZ (n:Nat) (w:World) (h1:(1:Int)<=n) (h2:(n:Int)<=64):
 Calls prog 357 #[.int .i64 (n:Int)] w λe w'=>e=.returned (.tuple #[.pointer (some ⟨w.heap.size,0,none⟩),.int .i64 0])/\RN w' w.heap.size n 0 false/\Below w.heap.size w w':=by
 have B:Hid (∀ o,Below w.heap.size w (w.alloc o)):=λo=>(Below.refl _ _).alloc (ADW _) o
 have G:Hid (RN (w.alloc (.cells #[.int .i64 (n:Int),.int .i64 0,.bool false] 301)) w.heap.size n 0 false):=⟨AB.new w [.int .i64 (n:Int),.int .i64 0,.bool false] _,by omega,by omega,by omega⟩
 go_enter func357,ntmps357
 go_wp2
 go_ret2
 exact ⟨rfl,G.out,B.out _⟩
def IE (w:World) (q:RN w b n d bk):
 Calls prog 178 #[.pointer (some ⟨b,0,none⟩)] w λe w'=>e=.returned (.tuple #[.int .i64 ((DX n d bk:Nat):Int),.bool bk,.bool (ov n d bk)])/\Sm w' w:=by
 have c0:=q.c0
 have c1:=q.c1
 have c2:=q.c2
 have n1:=q.n1
 have n2:(n:Int)<=64:=by have:=q.n2;omega
 rcases four bk q.dn with ⟨rfl,rfl⟩ | ⟨rfl,h⟩ | ⟨rfl,h⟩ | ⟨rfl,rfl⟩
 ·rw [Ql,Qn]
  clear q n1
  go_enter func178,ntmps178
  go_wp2
  go_quiet (fail)
  go_wp2
  go_quiet (fail)
  go_wp2
  go_ret3
  exact ⟨rfl,rfl,rfl,rfl,rfl⟩
 ·rw [MA h,ACv]
  have hp:(d:Int)-1=((d-1:Nat):Int):=by omega
  have h0:(0:Int)<d:=by omega
  have h1:(d:Int)<=n:=by have:=q.dn;omega
  generalize d-1=p at *
  clear q n1 h
  go_enter func178,ntmps178
  go_wp2
  go_ret3
  exact ⟨rfl,rfl,rfl,rfl,rfl⟩
 ·rw [Gc h,fT h]
  have h1:(d:Int)<n:=by omega
  clear q n1 h
  go_enter func178,ntmps178
  go_wp2
  go_quiet (fail)
  go_wp2
  go_ret3
  exact ⟨rfl,rfl,rfl,rfl,rfl⟩
 ·rw [I5,Wu]
  have h1:decide ((d:Int)<d)=false:=by simp
  clear q n1
  go_enter func178,ntmps178
  go_wp2
  go_quiet (fail)
  go_wp2
  go_quiet (fail)
  go_wp2
  go_ret3
  exact ⟨rfl,rfl,rfl,rfl,rfl⟩
def Zi (w:World) (q:RN w b n d bk):
 Calls prog 185 #[.pointer (some ⟨b,0,none⟩)] w λe w'=>e=.returned (.int .i64 (Jz n d bk))/\RN w' b n (E9 n d bk) bk/\Fr w.heap.size [b] w w':=by
 have A:Hid (∀ _:Unit,_):=λ_=>IE w q
 have Q:Hid (RN w b n d bk):=q
 have n2:(n:Int)<=64:=by have:=q.n2;omega
 have h1:(d:Int)<=n:=by have:=q.dn;omega
 rcases four bk q.dn with ⟨rfl,rfl⟩ | ⟨rfl,h⟩ | ⟨rfl,h⟩ | ⟨rfl,rfl⟩
 ·rw [Ql,Qn] at A
  rw [show Jz n 0 true=6 from rfl,show E9 n 0 true=0 from rfl]
  clear q
  go_enter func185,ntmps185
  go_wp2_with fail
  refine (A.out ()).mono ?_
  rintro e w1 ⟨rfl,m1⟩
  have M1:Hid (Sm w1 w):=m1
  clear m1
  go_wp2
  go_ret
  exact ⟨rfl,Q.out.heap M1.out.1,M1.out.fr (Fr.refl _ _ _)⟩
 ·rw [MA h] at A
  rw [show Jz n d true=0 by simp [Jz,MA h],show E9 n d true=d-1 by simp [E9,MA h]]
  have HP:Hid (d-1<=n):=by show d-1<=n;omega
  have hp:(d:Int)-1=((d-1:Nat):Int):=by omega
  have h0:(0:Int)<d:=by omega
  generalize DX n d true=k at *
  generalize d-1=p at *
  clear q h
  go_enter func185,ntmps185
  go_wp2_with fail
  refine (A.out ()).mono ?_
  rintro e w1 ⟨rfl,m1⟩
  have q1:=Q.out.heap m1.1
  have c1:=q1.c1
  have f1:=q1.f1
  have M1:Hid (Sm w1 w/\RN w1 b n d true):=⟨m1,q1⟩
  clear m1 q1
  go_wp2
  go_ret
  exact ⟨rfl,xM M1.out.2 _ HP.out,M1.out.1.fr ((Fr.refl _ _ _).setCell (Or.inr (by simp)) _)⟩
 ·rw [Gc h] at A
  rw [show Jz n d false=0 by simp [Jz,Gc h],show E9 n d false=d+1 by simp [E9,Gc h]]
  have HP:Hid (d+1<=n):=by show d+1<=n;omega
  have hp:(d:Int)+1=((d+1:Nat):Int):=by omega
  generalize DX n d false=k at *
  generalize d+1=p at *
  clear q h
  go_enter func185,ntmps185
  go_wp2_with fail
  refine (A.out ()).mono ?_
  rintro e w1 ⟨rfl,m1⟩
  have q1:=Q.out.heap m1.1
  have c1:=q1.c1
  have f1:=q1.f1
  have M1:Hid (Sm w1 w/\RN w1 b n d false):=⟨m1,q1⟩
  clear m1 q1
  go_wp2
  go_ret
  exact ⟨rfl,xM M1.out.2 _ HP.out,M1.out.1.fr ((Fr.refl _ _ _).setCell (Or.inr (by simp)) _)⟩
 ·rw [I5,Wu] at A
  rw [show Jz d d false=6 by simp [Jz,I5],show E9 d d false=d by simp [E9,I5]]
  clear q
  go_enter func185,ntmps185
  go_wp2_with fail
  refine (A.out ()).mono ?_
  rintro e w1 ⟨rfl,m1⟩
  have M1:Hid (Sm w1 w):=m1
  clear m1
  go_wp2
  go_ret
  exact ⟨rfl,Q.out.heap M1.out.1,M1.out.fr (Fr.refl _ _ _)⟩
def Zj (w:World) (q:RN w b n d bk):
 Calls prog 179 #[.pointer (some ⟨b,0,none⟩)] w λe w'=>e=.returned (.int .i64 (LZ n d bk))/\RN w' b n d (La n d bk)/\Fr w.heap.size [b] w w':=by
 have A:Hid (∀ _:Unit,_):=λ_=>IE w q
 have Q:Hid (RN w b n d bk):=q
 have n2:(n:Int)<=64:=by have:=q.n2;omega
 rcases four bk q.dn with ⟨rfl,rfl⟩ | ⟨rfl,h⟩ | ⟨rfl,h⟩ | ⟨rfl,rfl⟩
 ·rw [Ql,Qn] at A
  rw [show LZ n 0 true=6 from rfl,show La n 0 true=true from rfl]
  clear q
  go_enter func179,ntmps179
  go_wp2_with fail
  refine (A.out ()).mono ?_
  rintro e w1 ⟨rfl,m1⟩
  have M1:Hid (Sm w1 w):=m1
  clear m1
  go_wp2
  go_ret
  exact ⟨rfl,Q.out.heap M1.out.1,M1.out.fr (Fr.refl _ _ _)⟩
 ·rw [MA h] at A
  rw [show LZ n d true=6 by simp [LZ],show La n d true=true by simp [La]]
  generalize DX n d true=k at *
  clear q h
  go_enter func179,ntmps179
  go_wp2_with fail
  refine (A.out ()).mono ?_
  rintro e w1 ⟨rfl,m1⟩
  have M1:Hid (Sm w1 w):=m1
  clear m1
  go_wp2
  go_ret
  exact ⟨rfl,Q.out.heap M1.out.1,M1.out.fr (Fr.refl _ _ _)⟩
 ·rw [Gc h] at A
  rw [show LZ n d false=0 by simp [LZ,Gc h],show La n d false=true by simp [La,Gc h]]
  generalize DX n d false=k at *
  clear q h
  go_enter func179,ntmps179
  go_wp2_with fail
  refine (A.out ()).mono ?_
  rintro e w1 ⟨rfl,m1⟩
  have q1:=Q.out.heap m1.1
  have f2:=q1.f2
  have c2:=q1.c2
  have M1:Hid (Sm w1 w/\RN w1 b n d false):=⟨m1,q1⟩
  clear m1 q1
  go_wp2
  go_ret
  exact ⟨rfl,ACw M1.out.2 _,M1.out.1.fr ((Fr.refl _ _ _).setCell (Or.inr (by simp)) _)⟩
 ·rw [I5,Wu] at A
  rw [show LZ d d false=6 by simp [LZ,I5],show La d d false=false by simp [La,I5]]
  clear q
  go_enter func179,ntmps179
  go_wp2_with fail
  refine (A.out ()).mono ?_
  rintro e w1 ⟨rfl,m1⟩
  have M1:Hid (Sm w1 w):=m1
  clear m1
  go_wp2
  go_ret
  exact ⟨rfl,Q.out.heap M1.out.1,M1.out.fr (Fr.refl _ _ _)⟩
def fU (w:World) (q:RN w b n d bk):
 Calls prog 186 #[.pointer (some ⟨b,0,none⟩)] w λe w'=>e=.returned (.int .i64 (Lb n d bk))/\Sm w' w:=by
 have A:Hid (∀ _:Unit,_):=λ_=>IE w q
 rcases four bk q.dn with ⟨rfl,rfl⟩ | ⟨rfl,h⟩ | ⟨rfl,h⟩ | ⟨rfl,rfl⟩
 ·rw [Ql,Qn] at A
  rw [show Lb n 0 true=11 from rfl]
  clear q
  go_enter func186,ntmps186
  go_wp2_with fail
  refine (A.out ()).mono ?_
  rintro e w1 ⟨rfl,m1⟩
  have M1:Hid (Sm w1 w):=m1
  clear m1
  go_wp2
  go_ret
  exact ⟨rfl,M1.out⟩
 ·rw [MA h] at A
  rw [show Lb n d true=7 by simp [Lb,MA h]]
  generalize DX n d true=k at *
  clear q h
  go_enter func186,ntmps186
  go_wp2_with fail
  refine (A.out ()).mono ?_
  rintro e w1 ⟨rfl,m1⟩
  have M1:Hid (Sm w1 w):=m1
  clear m1
  go_wp2
  go_ret
  exact ⟨rfl,M1.out⟩
 ·rw [Gc h] at A
  rw [show Lb n d false=7 by simp [Lb,Gc h]]
  generalize DX n d false=k at *
  clear q h
  go_enter func186,ntmps186
  go_wp2_with fail
  refine (A.out ()).mono ?_
  rintro e w1 ⟨rfl,m1⟩
  have M1:Hid (Sm w1 w):=m1
  clear m1
  go_wp2
  go_ret
  exact ⟨rfl,M1.out⟩
 ·rw [I5,Wu] at A
  rw [show Lb d d false=0 by simp [Lb,I5]]
  clear q
  go_enter func186,ntmps186
  go_wp2_with fail
  refine (A.out ()).mono ?_
  rintro e w1 ⟨rfl,m1⟩
  have M1:Hid (Sm w1 w):=m1
  clear m1
  go_wp2
  go_ret
  exact ⟨rfl,M1.out⟩
def pG (w:World):Calls prog 178 #[.pointer none] w λe w'=>e=.returned (.tuple #[.int .i64 0,.bool false,.bool true])/\w'=w:=by
 go_enter func178,ntmps178
 go_wp2
 go_ret3
 exact ⟨rfl,rfl⟩
end Go.Proofs.YtdlhlfpigcgapaaGreatDoor.Hot
namespace Go.Proofs.YtdlhlfpigcgapaaGreatDoor.Hp
open Go.Proofs.Tryz
open Hot
open Rm
variable {P:Int->Bool} {k:Int}
structure Rq where
 up:Bool
 cpu:Int
 co:Int
 d:Nat
 bk:Bool
 told:Bool
def nn (up:Bool):Nat:=if up then 4 else 10
def AJ (c:Int):Bool:=decide (0<=c)&&decide (c<64)
def Dk (k:Int):Int:=if 0<=k/\k<10 then 0 else 3
def Zk (P:Int->Bool) (k:Int):Int->Bool:=if 0<=k/\k<10 then λj=>decide (j=k) || P j else P
def BF (R:Option Rq) (c y:Int):Int:=match R with
 | some _=>7
 | none=>if AJ c&&AJ y then (if c=y then 2 else 0) else 3
def EF (R:Option Rq) (up:Bool) (c y:Int):Option Rq:=if BF R c y=0 then some ⟨up,c,y,0,false,false⟩ else R
def BC:Option Rq->Bool | some r=>r.up | none=>false
def Bq:Option Rq->Int | some r=>r.cpu | none=>0
def cos:Option Rq->Int | some r=>r.co | none=>0
def NR:Option Rq->Bool | some r=>ov (nn r.up) r.d r.bk | none=>false
def Gx (P:Int->Bool) (r:Rq):Bool:=!ov (nn r.up) r.d r.bk&&!r.bk&&P r.d&&!r.told
def CV:Option Rq->Int | some r=>(if ov (nn r.up) r.d r.bk then 6 else 0) | none=>12
def FZ:Option Rq->Nat | some r=>DX (nn r.up) r.d r.bk | none=>0
def Fa:Option Rq->Bool | some r=>!ov (nn r.up) r.d r.bk&&r.bk | none=>false
def JO (P:Int->Bool):Option Rq->Bool | some r=>Gx P r | none=>false
def IF (P:Int->Bool) (r:Rq):Rq:=if ov (nn r.up) r.d r.bk || r.bk then r else ⟨r.up,r.cpu,r.co,r.d,Gx P r,true⟩
def NT (P:Int->Bool):Option Rq->Option Rq | some r=>some (IF P r) | none=>none
def xN (P:Int->Bool):Option Rq->Int->Bool | some r=>(if Gx P r then λj=>!decide (j=(r.d:Int))&&P j else P) | none=>P
def doE:Option Rq->Int | some r=>Jz (nn r.up) r.d r.bk | none=>12
def Zl:Option Rq->Option Rq | some r=>some ⟨r.up,r.cpu,r.co,E9 (nn r.up) r.d r.bk,r.bk,false⟩ | none=>none
def Cy:Option Rq->Int | some r=>(if ov (nn r.up) r.d r.bk then 0 else 6) | none=>12
def Lc:Option Rq->Int | some r=>(if ov (nn r.up) r.d r.bk then (if r.bk then 11 else 0) else 0) | none=>0
def VL:Option Rq->Option Rq | some r=>(if ov (nn r.up) r.d r.bk then none else some r) | none=>none
def xO (r:Rq) (t:Bool):Prop:=r.bk=false->r.d<nn r.up->t=r.told
def kZ (up:Bool):1<=nn up/\nn up<=10:=by cases up <;> decide
def xP (h:k<0\/10<=k):Dk k=3:=AHh (by omega)
def pH (h:0<=k) (h2:k<10):Dk k=0:=AHi ⟨h,h2⟩
def xQ (h:k<0\/10<=k):Zk P k=P:=AHh (by omega)
def pI (h:0<=k) (h2:k<10):Zk P k=λj=>decide (j=k) || P j:=AHi ⟨h,h2⟩
end Go.Proofs.YtdlhlfpigcgapaaGreatDoor.Hp
namespace Go.Proofs.YtdlhlfpigcgapaaGreatDoor.Hot
open Go.Proofs.Tryz
open Go.ChangeShapes Go.WideShapes Go.ChangeAt Go.RowKit
variable {id:Int}
def GL:Maps.Keyed prog 3:=Maps.int_keyed underlying3
def lC (w:World):(zeroValue 277).run prog w=.ok (.agg #[]) w:=by kernel_rfl
def MS (w:World) (b N:Nat) (f:Int->Bool):Prop:=
 ∃ D:DataW Unit,w.ownsMap prog 3 unitElem b N D/\∀ id,(Lit.int .i64 id).wf=true->Maps.has D (.int .i64 id)=f id
section
variable {w w':World} {b N:Nat} {f:Int->Bool}
def MS.lt (h:MS w b N f):b<w.heap.size:=by obtain ⟨D,o,_⟩:=h;exact o.lt
def MS.same (h:MS w b N f) (e:w'.heap[b]?=w.heap[b]?):MS w' b N f:=by
 obtain ⟨D,⟨es,clock,hb,rest⟩,k⟩:=h
 exact ⟨D,⟨es,clock,e.trans hb,rest⟩,k⟩
def MS.AA {B:Nat} {S:List Nat} (h:MS w b N f) (k:Fr B S w w') (hb:b<B) (hs:b∉S):MS w' b N f:=h.same (k.block b hb hs)
def MS.AC (h:MS w b N f) {g:Nat} {cs:List Value} {t:TypeId} (k:AB w g cs t):b≠g:=by
 intro e
 subst e
 obtain ⟨D,⟨es,clock,hb,_⟩,_⟩:=h
 have:=(show w.heap[b]?=_ from k).symm.trans hb
 cases this
def xR (w:World):MS (w.alloc (.map #[] 0)) w.heap.size 0 (λ_=>false):=⟨_,World.ownsMap_made w prog 3 _,λ_ _=>rfl⟩
def pJ (h:MS w b N f) (hw:(Lit.int .i64 id).wf=true):
 (Instr.lookup 70 (.map (some b)) (.int .i64 id) true).run prog w=.ok (.tuple #[.agg #[],.bool (f id)]) w:=by
 obtain ⟨D,o,k⟩:=h
 obtain ⟨v,ps,hrun,hv⟩:=o.look_ok GL underlying70 (lC w) unitElem_mk (Maps.keyOf_int_mk underlying3 hw)
 obtain ⟨rfl,_⟩:=unitElem_inv hv
 rw [hrun,k id hw]
def pM (w:World) (hw:(Lit.int .i64 id).wf=true):
 (Instr.lookup 70 (.map none) (.int .i64 id) true).run prog w=.ok (.tuple #[.agg #[],.bool false]) w:=by
 have:=Maps.look_nil (w:=w) true GL underlying70 (lC w) (Maps.keyOf_int_mk underlying3 hw)
 simpa using this
def Zn (h:MS w b N f) (hn:N<=10000000) (hw:(Lit.int .i64 id).wf=true):
 ∃ w',(Instr.mapUpdate 70 (.map (some b)) (.int .i64 id) (.agg #[])).run prog w=.ok () w'/\MS w' b (N+1) (λj=>decide (j=id) || f j)/\Fr w.heap.size [b] w w':=by
 obtain ⟨D,o,k⟩:=h
 obtain ⟨w',hrun,r1,r2⟩:=o.store GL underlying70 (by unfold maxLen;omega) (Maps.keyOf_int_mk underlying3 hw) unitElem_mk
 refine ⟨w',hrun,⟨_,r1,λj hj=>?_⟩,?_⟩
 ·dsimp only
  by_cases e:j=id
  ·subst e
   have kl:WideAt.IsKeyLit (Lit.int .i64 j):=trivial
   rw [Maps.has_put_same o.isMap kl _]
   simp
  ·have ne:(Lit.int .i64 j)≠Lit.int .i64 id:=λq=>e (by cases q;rfl)
   rw [Maps.has_put_other ne,k j hj]
   simp [e]
 ·have g:=r2.grown
  exact ⟨g.os,g.tape,g.output,g.size,λk hk hs=>g.block k hk (λe=>hs (by cases e;simp))⟩
def xS (h:MS w b N f) (hw:(Lit.int .i64 id).wf=true) (ty:TypeId):
 ∃ w',(Builtin.delete_ #[70,3] ty #[.map (some b),.int .i64 id]).run prog w=.ok (.tuple #[]) w'/\MS w' b N (λj=>!decide (j=id)&&f j)/\Fr w.heap.size [b] w w':=by
 obtain ⟨D,o,k⟩:=h
 obtain ⟨w',hrun,r1,r2⟩:=o.drop GL underlying70 (Maps.keyOf_int_mk underlying3 hw) ty
 refine ⟨w',hrun,⟨_,r1,λj hj=>?_⟩,?_⟩
 ·dsimp only
  by_cases e:j=id
  ·subst e
   rw [Maps.has_del_same]
   simp
  ·have ne:(Lit.int .i64 j)≠Lit.int .i64 id:=λq=>e (by cases q;rfl)
   rw [Maps.has_del_other ne,k j hj]
   simp [e]
 ·have g:=r2.grown
  exact ⟨g.os,g.tape,g.output,g.size,λk hk hs=>g.block k hk (λe=>hs (by cases e;simp))⟩
end
open Rm Hp
variable {R:Option Rq} {P:Int->Bool} {Z Z2:List Nat} {N N2 b q s x z:Nat} {t:TypeId} {w:World} {r r':Rq}
structure RQ (w:World) (q b:Nat) (r:Rq) (t:Bool):Prop where
 sb:AB w q [.pointer (some ⟨b,0,none⟩),.bool r.up,.int .i64 r.cpu,.int .i64 r.co,.bool t] 221
 rn:RN w b (nn r.up) r.d r.bk
 tel:xO r t
def PN (w:World) (Z:List Nat) (nv:Value):Option Rq->Prop
 | none=>nv=.pointer none
 | some r=>∃ q b t,nv=.pointer (some ⟨q,0,none⟩)/\RQ w q b r t/\q∈Z/\b∈Z
def PM (w:World) (Z:List Nat) (mv:Value) (P:Int->Bool) (N:Nat):Prop:=
 (mv=.map none/\∀ j,P j=false)\/∃ m,mv=.map (some m)/\MS w m N P/\m∈Z
structure Cj (w:World) (s:Nat) (Z:List Nat) (nv mv:Value) (R:Option Rq) (P:Int->Bool) (N:Nat):Prop where
 sb:AB w s [nv,mv] 72
 pn:PN w Z nv R
 pm:PM w Z mv P N
 sz:s∈Z
 lt:∀ k∈Z,k<w.heap.size
def PD (w:World) (s:Nat) (Z:List Nat) (R:Option Rq) (P:Int->Bool) (N:Nat):Prop:=∃ nv mv,Cj w s Z nv mv R P N
def Mz (w w':World) (Z Z':List Nat):Prop:=Fr w.heap.size Z w w'/\∀ k∈Z',k∈Z\/w.heap.size<=k
section
variable {w w1:World} {s:Nat} {Z:List Nat} {nv mv:Value} {R:Option Rq} {P:Int->Bool} {N:Nat}
def RQ.AA {q b:Nat} {r:Rq} {t:Bool} {B:Nat} {S:List Nat} (h:RQ w q b r t) (f:Fr B S w w1) (hq:q<B/\q∉S) (hb:b<B/\b∉S):RQ w1 q b r t:=⟨h.sb.AA f hq.1 hq.2,h.rn.AA f hb.1 hb.2,h.tel⟩
def PN.AA {B:Nat} {S:List Nat} (h:PN w Z nv R) (f:Fr B S w w1) (hz:∀ k∈Z,k<B/\k∉S):PN w1 Z nv R:=by
 cases R with
 | none=>exact h
 | some r=>
  obtain ⟨q,b,t,e,k,h1,h2⟩:=h
  exact ⟨q,b,t,e,k.AA f (hz q h1) (hz b h2),h1,h2⟩
def PN.sub (h:PN w Z nv R) (hz:∀ k∈Z,k∈Z2):PN w Z2 nv R:=by
 cases R with
 | none=>exact h
 | some r=>
  obtain ⟨q,b,t,e,k,h1,h2⟩:=h
  exact ⟨q,b,t,e,k,hz q h1,hz b h2⟩
def PM.AA {B:Nat} {S:List Nat} (h:PM w Z mv P N) (f:Fr B S w w1) (hz:∀ k∈Z,k<B/\k∉S):PM w1 Z mv P N:=by
 rcases h with h | ⟨m,e,k,hm⟩
 ·exact Or.inl h
 ·exact Or.inr ⟨m,e,k.AA f (hz m hm).1 (hz m hm).2,hm⟩
def PM.sub (h:PM w Z mv P N) (hz:∀ k∈Z,k∈Z2):PM w Z2 mv P N:=by
 rcases h with h | ⟨m,e,k,hm⟩
 ·exact Or.inl h
 ·exact Or.inr ⟨m,e,k,hz m hm⟩
def Cj.AA {B:Nat} {S:List Nat} (h:Cj w s Z nv mv R P N) (f:Fr B S w w1) (hz:∀ k∈Z,k<B/\k∉S):Cj w1 s Z nv mv R P N:=
 ⟨h.sb.AA f (hz s h.sz).1 (hz s h.sz).2,h.pn.AA f hz,h.pm.AA f hz,h.sz,λk hk=>AD7 (h.lt k hk) f.size⟩
def PD.AA {B:Nat} {S:List Nat} (h:PD w s Z R P N) (f:Fr B S w w1) (hz:∀ k∈Z,k<B/\k∉S):PD w1 s Z R P N:=by
 obtain ⟨nv,mv,h⟩:=h
 exact ⟨nv,mv,h.AA f hz⟩
def PD.below (h:PD w s Z R P N) (f:Below w.heap.size w w1):PD w1 s Z R P N:=by
 refine h.AA (Fr.AE f) λk hk=>⟨?_,by simp⟩
 obtain ⟨_,_,h⟩:=h
 exact h.lt k hk
def Cj.c0 (h:Cj w s Z nv mv R P N):w.cell? ⟨s,0,none⟩=some nv:=h.sb.cell 0
def Cj.c1 (h:Cj w s Z nv mv R P N):w.cell? ⟨s,1,none⟩=some mv:=h.sb.cell 1
def Cj.f0 (h:Cj w s Z nv mv R P N):w.frozen? ⟨s,0,none⟩=false:=h.sb.free 0
def Cj.f1 (h:Cj w s Z nv mv R P N):w.frozen? ⟨s,1,none⟩=false:=h.sb.free 1
def Mz.refl (w:World) (Z:List Nat):Mz w w Z Z:=⟨Fr.refl _ _ _,λ_ h=>Or.inl h⟩
def Mz.AE {Z2:List Nat} (f:Below w.heap.size w w1) (h:∀ k∈Z2,k∈Z):Mz w w1 Z Z2:=⟨(Fr.AE f).mono (ADW _) (by simp),λk hk=>Or.inl (h k hk)⟩
end
section
variable {w:World} {q b:Nat} {r:Rq} {t:Bool}
def RQ.c0 (h:RQ w q b r t):w.cell? ⟨q,0,none⟩=some (.pointer (some ⟨b,0,none⟩)):=h.sb.cell 0
def RQ.c1 (h:RQ w q b r t):w.cell? ⟨q,1,none⟩=some (.bool r.up):=h.sb.cell 1
def RQ.c2 (h:RQ w q b r t):w.cell? ⟨q,2,none⟩=some (.int .i64 r.cpu):=h.sb.cell 2
def RQ.c3 (h:RQ w q b r t):w.cell? ⟨q,3,none⟩=some (.int .i64 r.co):=h.sb.cell 3
def RQ.c4 (h:RQ w q b r t):w.cell? ⟨q,4,none⟩=some (.bool t):=h.sb.cell 4
def RQ.f4 (h:RQ w q b r t):w.frozen? ⟨q,4,none⟩=false:=h.sb.free 4
end
def er:List Value:=[.pointer none,.bool false,.int .i64 0,.int .i64 0,.bool false]
def xT (w:World):AB (w.alloc (.cells #[.pointer none,.bool false,.int .i64 0,.int .i64 0,.bool false] 221)) w.heap.size er 221:=AB.new w er _
def Bi (w:World) (c0:w.cell? ⟨s,0,none⟩=some (.pointer none)):Calls prog 61 #[.pointer (some ⟨s,0,none⟩)] w λe w'=>∃ z,e=.returned (.tuple #[.pointer (some ⟨z,0,none⟩),.int .i64 12])/\AB w' z er 221/\Below w.heap.size w w':=by
 have B:Hid (∀ o,Below w.heap.size w (w.alloc o)):=λo=>(Below.refl _ _).alloc (ADW _) o
 have G:Hid _:=xT w
 go_enter func61,ntmps61
 go_wp2
 go_ret2
 exact ⟨_,rfl,G.out,B.out _⟩
def Bj (w:World) (c0:w.cell? ⟨s,0,none⟩=some (.pointer (some ⟨q,0,none⟩))):Calls prog 61 #[.pointer (some ⟨s,0,none⟩)] w λe w'=>e=.returned (.tuple #[.pointer (some ⟨q,0,none⟩),.int .i64 0])/\w'=w:=by
 go_enter func61,ntmps61
 go_wp2
 go_ret2
 exact ⟨rfl,rfl⟩
def P7 (c:Int) (w:World):Calls prog 356 #[.int .i64 c] w λe w'=>e=.returned (.bool (AJ c))/\w'=w:=by
 unfold AJ
 by_cases h:0<=c
 ·rw [AHj h,AEC]
  by_cases h2:c<64
  ·rw [AHj h2]
   go_enter func356,ntmps356
   go_wp2
   go_ret
   exact ⟨rfl,rfl⟩
  ·rw [AHk h2]
   go_enter func356,ntmps356
   go_wp2
   go_ret
   exact ⟨rfl,rfl⟩
 ·rw [AHk h,AEm]
  go_enter func356,ntmps356
  go_wp2
  go_ret
  exact ⟨rfl,rfl⟩
def Tv (up:Bool) (w:World):Calls prog 358 #[.bool up] w λe w'=>e=.returned (.int .i64 ((nn up:Nat):Int))/\w'=w:=by
 cases up
 ·rw [show ((nn false:Nat):Int)=10 from rfl]
  go_enter func358,ntmps358
  go_wp2
  go_ret
  exact ⟨rfl,rfl⟩
 ·rw [show ((nn true:Nat):Int)=4 from rfl]
  go_enter func358,ntmps358
  go_wp2
  go_ret
  exact ⟨rfl,rfl⟩
def Zo (w:World) (h:PD w s Z R P N):
 Calls prog 22 #[.pointer (some ⟨s,0,none⟩)] w λe w'=>e=.returned (.bool R.isSome)/\Below w.heap.size w w':=by
 obtain ⟨nv,mv,h⟩:=h
 have c0:=h.c0
 have pn:=h.pn
 cases R with
 | none=>
  obtain rfl:nv=.pointer none:=pn
  have C:Hid (∀ _:Unit,_):=λ_=>Bi w c0
  show Calls _ _ _ _ λe w'=>e=.returned (.bool false)/\_
  clear h c0
  go_enter func22,ntmps22
  go_wp2_with fail
  refine (C.out ()).mono ?_
  rintro e w1 ⟨z,rfl,k1,b1⟩
  have B1:Hid (Below w.heap.size w w1):=b1
  clear k1 b1
  go_wp2
  go_ret
  exact ⟨rfl,B1.out⟩
 | some r=>
  obtain ⟨q,b,t,rfl,k,_,_⟩:=pn
  have C:Hid (∀ _:Unit,_):=λ_=>Bj w c0
  show Calls _ _ _ _ λe w'=>e=.returned (.bool true)/\_
  clear h c0 k
  go_enter func22,ntmps22
  go_wp2_with fail
  refine (C.out ()).mono ?_
  rintro e w1 ⟨rfl,rfl⟩
  go_wp2
  go_ret
  exact ⟨rfl,Below.refl _ _⟩
def pN (w:World) (h:PD w s Z R P N):
 Calls prog 180 #[.pointer (some ⟨s,0,none⟩)] w λe w'=>e=.returned (.bool (BC R))/\Below w.heap.size w w':=by
 obtain ⟨nv,mv,h⟩:=h
 have c0:=h.c0
 have pn:=h.pn
 cases R with
 | none=>
  obtain rfl:nv=.pointer none:=pn
  have C:Hid (∀ _:Unit,_):=λ_=>Bi w c0
  show Calls _ _ _ _ λe w'=>e=.returned (.bool false)/\_
  clear h c0
  go_enter func180,ntmps180
  go_wp2_with fail
  refine (C.out ()).mono ?_
  rintro e w1 ⟨z,rfl,k1,b1⟩
  have z1:w1.cell? ⟨z,1,none⟩=some (.bool false):=k1.cell 1
  have B1:Hid (Below w.heap.size w w1):=b1
  clear k1 b1
  go_wp2
  go_ret
  exact ⟨rfl,B1.out⟩
 | some r=>
  obtain ⟨q,b,t,rfl,k,_,_⟩:=pn
  have C:Hid (∀ _:Unit,_):=λ_=>Bj w c0
  show Calls _ _ _ _ λe w'=>e=.returned (.bool r.up)/\_
  have d1:=k.c1
  clear h c0 k
  go_enter func180,ntmps180
  go_wp2_with fail
  refine (C.out ()).mono ?_
  rintro e w1 ⟨rfl,rfl⟩
  go_wp2
  go_ret
  exact ⟨rfl,Below.refl _ _⟩
def fV (w:World) (h:PD w s Z R P N):
 Calls prog 125 #[.pointer (some ⟨s,0,none⟩)] w λe w'=>e=.returned (.int .i64 (Bq R))/\Below w.heap.size w w':=by
 obtain ⟨nv,mv,h⟩:=h
 have c0:=h.c0
 have pn:=h.pn
 cases R with
 | none=>
  obtain rfl:nv=.pointer none:=pn
  have C:Hid (∀ _:Unit,_):=λ_=>Bi w c0
  show Calls _ _ _ _ λe w'=>e=.returned (.int .i64 0)/\_
  clear h c0
  go_enter func125,ntmps125
  go_wp2_with fail
  refine (C.out ()).mono ?_
  rintro e w1 ⟨z,rfl,k1,b1⟩
  have z2:w1.cell? ⟨z,2,none⟩=some (.int .i64 0):=k1.cell 2
  have B1:Hid (Below w.heap.size w w1):=b1
  clear k1 b1
  go_wp2
  go_ret
  exact ⟨rfl,B1.out⟩
 | some r=>
  obtain ⟨q,b,t,rfl,k,_,_⟩:=pn
  have C:Hid (∀ _:Unit,_):=λ_=>Bj w c0
  show Calls _ _ _ _ λe w'=>e=.returned (.int .i64 r.cpu)/\_
  have d2:=k.c2
  clear h c0 k
  go_enter func125,ntmps125
  go_wp2_with fail
  refine (C.out ()).mono ?_
  rintro e w1 ⟨rfl,rfl⟩
  go_wp2
  go_ret
  exact ⟨rfl,Below.refl _ _⟩
def pO (w:World) (h:PD w s Z R P N):
 Calls prog 111 #[.pointer (some ⟨s,0,none⟩)] w λe w'=>e=.returned (.int .i64 (cos R))/\Below w.heap.size w w':=by
 obtain ⟨nv,mv,h⟩:=h
 have c0:=h.c0
 have pn:=h.pn
 cases R with
 | none=>
  obtain rfl:nv=.pointer none:=pn
  have C:Hid (∀ _:Unit,_):=λ_=>Bi w c0
  show Calls _ _ _ _ λe w'=>e=.returned (.int .i64 0)/\_
  clear h c0
  go_enter func111,ntmps111
  go_wp2_with fail
  refine (C.out ()).mono ?_
  rintro e w1 ⟨z,rfl,k1,b1⟩
  have z3:w1.cell? ⟨z,3,none⟩=some (.int .i64 0):=k1.cell 3
  have B1:Hid (Below w.heap.size w w1):=b1
  clear k1 b1
  go_wp2
  go_ret
  exact ⟨rfl,B1.out⟩
 | some r=>
  obtain ⟨q,b,t,rfl,k,_,_⟩:=pn
  have C:Hid (∀ _:Unit,_):=λ_=>Bj w c0
  show Calls _ _ _ _ λe w'=>e=.returned (.int .i64 r.co)/\_
  have d3:=k.c3
  clear h c0 k
  go_enter func111,ntmps111
  go_wp2_with fail
  refine (C.out ()).mono ?_
  rintro e w1 ⟨rfl,rfl⟩
  go_wp2
  go_ret
  exact ⟨rfl,Below.refl _ _⟩
def P8 (w:World) (h:PD w s Z R P N):
 Calls prog 124 #[.pointer (some ⟨s,0,none⟩)] w λe w'=>e=.returned (.bool (NR R))/\Below w.heap.size w w':=by
 obtain ⟨nv,mv,h⟩:=h
 have c0:=h.c0
 have pn:=h.pn
 cases R with
 | none=>
  obtain rfl:nv=.pointer none:=pn
  have C:Hid (∀ _:Unit,_):=λ_=>Bi w c0
  have A:Hid (∀ w,_):=λw=>pG w
  show Calls _ _ _ _ λe w'=>e=.returned (.bool false)/\_
  clear h c0
  go_enter func124,ntmps124
  go_wp2_with fail
  refine (C.out ()).mono ?_
  rintro e w1 ⟨z,rfl,k1,b1⟩
  have z0:w1.cell? ⟨z,0,none⟩=some (.pointer none):=k1.cell 0
  have B1:Hid (Below w.heap.size w w1):=b1
  clear k1 b1
  go_wp2_with fail
  refine (A.out _).mono ?_
  rintro e w2 ⟨rfl,rfl⟩
  go_wp2
  go_ret
  exact ⟨rfl,B1.out⟩
 | some r=>
  obtain ⟨q,b,t,rfl,k,_,_⟩:=pn
  have C:Hid (∀ _:Unit,_):=λ_=>Bj w c0
  have A:Hid (∀ _:Unit,_):=λ_=>IE w k.rn
  show Calls _ _ _ _ λe w'=>e=.returned (.bool (ov (nn r.up) r.d r.bk))/\_
  generalize ov (nn r.up) r.d r.bk=y at *
  generalize DX (nn r.up) r.d r.bk=x at *
  have d0:=k.c0
  clear h c0 k
  go_enter func124,ntmps124
  go_wp2_with fail
  refine (C.out ()).mono ?_
  rintro e w1 ⟨rfl,rfl⟩
  go_wp2_with fail
  refine (A.out ()).mono ?_
  rintro e w2 ⟨rfl,m2⟩
  have M2:Hid (Below w1.heap.size w1 w2):=m2.below (Below.refl _ _)
  clear m2
  go_wp2
  go_ret
  exact ⟨rfl,M2.out⟩
section
variable {w w1 w2:World} {s:Nat} {Z:List Nat} {nv mv:Value} {R:Option Rq} {P:Int->Bool} {N:Nat}
def MS.up (h:MS w b N P) (hn:N<=N2):MS w b N2 P:=by
 obtain ⟨D,o,k⟩:=h
 exact ⟨D,o.mono hn,k⟩
def PD.up {N2:Nat} (h:PD w s Z R P N) (hn:N<=N2):PD w s Z R P N2:=by
 obtain ⟨nv,mv,h⟩:=h
 refine ⟨nv,mv,h.sb,h.pn,?_,h.sz,h.lt⟩
 rcases h.pm with k | ⟨m,e,k,hm⟩
 ·exact Or.inl k
 ·exact Or.inr ⟨m,e,k.up hn,hm⟩
def PN.I6 (h:PN w Z nv R) (f:Fr w.heap.size [x] w w1) (hx:∀ q cs,AB w q cs 221->q≠x) (hx2:∀ b cs,AB w b cs 301->b≠x):PN w1 Z nv R:=by
 cases R with
 | none=>exact h
 | some r=>
  obtain ⟨q,b,t,e,k,h1,h2⟩:=h
  have n1:=hx _ _ k.sb
  have n2:=hx2 _ _ k.rn.sb
  exact ⟨q,b,t,e,k.AA f ⟨k.sb.lt,by simp;exact n1⟩ ⟨k.rn.sb.lt,by simp;exact n2⟩,h1,h2⟩
def PM.I6 {cs:List Value} (h:PM w Z mv P N) (f:Fr w.heap.size [x] w w1) (hx:AB w x cs t):PM w1 Z mv P N:=by
 rcases h with h | ⟨m,e,k,hm⟩
 ·exact Or.inl h
 ·have:=k.AC hx
  exact Or.inr ⟨m,e,k.AA f k.lt (by simp;exact this),hm⟩
def SV {m:Nat} {P2:Int->Bool} (h:Cj w s Z nv (.map (some m)) R P N) (hm:m∈Z) (M:MS w m N P) (M2:MS w2 m N2 P2) (f:Fr w.heap.size [m] w w2):Cj w2 s Z nv (.map (some m)) R P2 N2:=
 ⟨h.sb.AA f h.sb.lt (by simp;exact λe=>M.AC h.sb e.symm),h.pn.I6 f (λ_ _ k e=>M.AC k e.symm) (λ_ _ k e=>M.AC k e.symm),Or.inr ⟨m,rfl,M2,hm⟩,h.sz,λk hk=>AD7 (h.lt k hk) f.size⟩
def VM {t x:Bool} (h:Cj w s Z (.pointer (some ⟨q,0,none⟩)) mv (some r) P N) (k:RQ w q b r t) (hq:q∈Z) (hb:b∈Z) (e:r'.up=r.up/\r'.cpu=r.cpu/\r'.co=r.co/\r'.d=r.d/\r'.bk=r.bk) (tel:xO r' x):
 Cj (w.setCell ⟨q,4,none⟩ (.bool x)) s Z (.pointer (some ⟨q,0,none⟩)) mv (some r') P N/\RQ (w.setCell ⟨q,4,none⟩ (.bool x)) q b r' x/\Fr w.heap.size [q] w (w.setCell ⟨q,4,none⟩ (.bool x)):=by
 obtain ⟨e1,e2,e3,e4,e5⟩:=e
 have f:Fr w.heap.size [q] w (w.setCell ⟨q,4,none⟩ (.bool x)):=(Fr.refl _ _ _).setCell (Or.inr (by simp)) _
 have n1:s≠q:=h.sb.ne k.sb (by decide)
 have n2:b≠q:=k.rn.sb.ne k.sb (by decide)
 have k2:RQ (w.setCell ⟨q,4,none⟩ (.bool x)) q b r' x:=by
  refine ⟨?_,?_,tel⟩
  ·rw [e1,e2,e3]
   exact k.sb.set 4 _
  ·rw [e1,e4,e5]
   exact k.rn.AA f k.rn.sb.lt (by simp;exact n2)
 exact ⟨⟨h.sb.AA f h.sb.lt (by simp;exact n1),⟨q,b,x,rfl,k2,hq,hb⟩,h.pm.I6 f k.sb,h.sz,λj hj=>AD7 (h.lt j hj) f.size⟩,k2,f⟩
def Zp {d':Nat} {bk':Bool} {t:Bool} (h:Cj w s Z (.pointer (some ⟨q,0,none⟩)) mv (some r) P N) (k:RQ w q b r t) (hq:q∈Z) (hb:b∈Z) (rn:RN w1 b (nn r.up) d' bk') (f:Fr w.heap.size [b] w w1) (e:r'.up=r.up/\r'.cpu=r.cpu/\r'.co=r.co/\r'.d=d'/\r'.bk=bk') (tel:xO r' t):
 Cj w1 s Z (.pointer (some ⟨q,0,none⟩)) mv (some r') P N/\RQ w1 q b r' t:=by
 obtain ⟨e1,e2,e3,e4,e5⟩:=e
 have n1:s≠b:=h.sb.ne k.rn.sb (by decide)
 have n2:q≠b:=k.sb.ne k.rn.sb (by decide)
 have k2:RQ w1 q b r' t:=by
  refine ⟨?_,?_,tel⟩
  ·rw [e1,e2,e3]
   exact k.sb.AA f k.sb.lt (by simp;exact n2)
  ·rw [e1,e4,e5]
   exact rn
 exact ⟨⟨h.sb.AA f h.sb.lt (by simp;exact n1),⟨q,b,t,rfl,k2,hq,hb⟩,h.pm.I6 f k.rn.sb,h.sz,λj hj=>AD7 (h.lt j hj) f.size⟩,k2⟩
def VN (f:Fr w1.heap.size [x] w1 w2) (hw:w.heap.size<=w1.heap.size) (hx:x∈Z):Fr w.heap.size Z w1 w2:=f.mono hw λk _ hk hm=>hk (by simp at hm;subst hm;exact hx)
def Jl (w:World):(binOp .eql 70 (.map none) (.map none)).run prog w=.ok (.bool true) w:=run_eql_map_nil w _ 3 277 none underlying70
def Iv (b:Nat) (w:World):(binOp .eql 70 (.map (some b)) (.map none)).run prog w=.ok (.bool false) w:=run_eql_map_nil w _ 3 277 (some b) underlying70
end
def Zq (k:Int) (hw:(Lit.int .i64 k).wf=true) (w:World) (h:PD w s Z R P N) (hn:N<=1000000):
 Calls prog 339 #[.pointer (some ⟨s,0,none⟩),.int .i64 k] w λe w'=>e=.returned (.int .i64 (Dk k))/\∃ Z',PD w' s Z' R (Zk P k) (N+1)/\Mz w w' Z Z':=by
 by_cases c:k<0\/10<=k
 ·rw [xP c,xQ c]
  have H:Hid (PD w s Z R P (N+1)):=h.up (by omega)
  clear h hw
  rcases c with c | c
  all_goals (
   try (have c2:¬ k<0:=by omega)
   go_enter func339,ntmps339
   go_wp2
   go_ret
   exact ⟨rfl,Z,H.out,Mz.refl _ _⟩)
 ·have k0:0<=k:=by omega
  have k1:k<10:=by omega
  rw [pH k0 k1,pI k0 k1]
  obtain ⟨nv,mv,h⟩:=h
  have c1:=h.c1
  have f1:=h.f1
  clear c
  rcases h.pm with ⟨rfl,hP⟩ | ⟨m,rfl,M,hm⟩
  ·have mn:=Jl
   have mbs:=@run_makeMap prog
   obtain ⟨mb,emb⟩:∃ mb,mb=w.heap.size:=⟨_,rfl⟩
   obtain ⟨w1,ew1⟩:∃ w1,w1=(w.alloc (.map #[] 0)).setCell ⟨s,1,none⟩ (.map (some mb)):=⟨_,rfl⟩
   have ha:=h.AA ((Fr.refl w.heap.size [] w).alloc (ADW _) (.map #[] 0)) (λj hj=>⟨h.lt j hj,by simp⟩)
   have F1:Fr (w.alloc (.map #[] 0)).heap.size [s] (w.alloc (.map #[] 0)) w1:=by
    rw [ew1]
    exact (Fr.refl _ _ _).setCell (Or.inr (by simp)) _
   have F0:Fr w.heap.size Z w w1:=((Fr.refl w.heap.size Z w).alloc (ADW _) _).trans (VN F1 (by simp) h.sz)
   have hs:=h.sb.lt
   have M1:MS w1 mb N P:=by
    have:=xR w
    rw [<- emb] at this
    have e:P=λ_=>false:=funext hP
    rw [e]
    exact (this.up (AFQ _)).AA F1 this.lt (by simp;omega)
   have H1:Cj w1 s (mb::Z) nv (.map (some mb)) R P N:=by
    refine ⟨?_,(ha.pn.I6 F1 (λ_ _ k=>k.ne ha.sb (by decide)) (λ_ _ k=>k.ne ha.sb (by decide))).sub (λj hj=>ADV _ hj),Or.inr ⟨mb,rfl,M1,by simp⟩,ADV _ h.sz,λj hj=>?_⟩
    ·rw [ew1]
     exact ha.sb.set 1 _
    ·have:=F1.size
     simp at this
     rcases AD0.1 hj with e | e
     ·omega
     ·have:=h.lt j e
      omega
   obtain ⟨w2,r2,M2,f2⟩:=Zn M1 (by omega) hw
   have H2:Hid (PD w2 s (mb::Z) R (λj=>decide (j=k) || P j) (N+1)):=⟨_,_,SV H1 (by simp) M1 M2 f2⟩
   have MM:Hid (Mz w w2 Z (mb::Z)):=by
    refine ⟨F0.trans (f2.mono F0.size λj hj _ hm=>by simp at hm;omega),λj hj=>?_⟩
    rcases AD0.1 hj with e | e
    ·exact Or.inr (by omega)
    ·exact Or.inl e
   have d1:=H1.c1
   have y1:=ha.c1
   have y2:=ha.f1
   rw [ew1] at d1 r2
   subst emb
   clear h ha F1 F0 M1 H1 M2 f2 ew1 hP hs
   go_enter func339,ntmps339
   go_wp2
   go_ret
   exact ⟨rfl,_,H2.out,MM.out⟩
  ·have mn:=Iv m
   obtain ⟨w2,r2,M2,f2⟩:=Zn M (by omega) hw
   have H2:Hid (PD w2 s Z R (λj=>decide (j=k) || P j) (N+1)):=⟨_,_,SV h hm M M2 f2⟩
   have MM:Hid (Mz w w2 Z Z):=⟨VN f2 (ADW _) hm,λ_ h=>Or.inl h⟩
   clear h M M2 f2
   go_enter func339,ntmps339
   go_wp2
   go_ret
   exact ⟨rfl,_,H2.out,MM.out⟩
def Wv (up:Bool) (c y:Int) (w:World) (h:PD w s Z R P N):
 Calls prog 337 #[.pointer (some ⟨s,0,none⟩),.bool up,.int .i64 c,.int .i64 y] w λe w'=>e=.returned (.int .i64 (BF R c y))/\∃ Z',PD w' s Z' (EF R up c y) P N/\Mz w w' Z Z':=by
 have H:Hid (PD w s Z R P N):=h
 obtain ⟨nv,mv,h⟩:=h
 have c0:=h.c0
 have pn:=h.pn
 cases R with
 | some r=>
  obtain ⟨q,b,t,rfl,_⟩:=pn
  rw [show BF (some r) c y=7 from rfl,show EF (some r) up c y=some r from rfl]
  clear h
  go_enter func337,ntmps337
  go_wp2
  go_ret
  exact ⟨rfl,Z,H.out,Mz.refl _ _⟩
 | none=>
  obtain rfl:nv=.pointer none:=pn
  have C1:Hid (∀ w,_):=λw=>P7 c w
  have C2:Hid (∀ w,_):=λw=>P7 y w
  cases i1:AJ c
  ·rw [show BF none c y=3 by simp [BF,i1],show EF none up c y=none by simp [EF,BF,i1]]
   rw [i1] at C1
   clear h i1
   go_enter func337,ntmps337
   go_wp2_with fail
   refine (C1.out _).mono ?_
   rintro e w1 ⟨rfl,rfl⟩
   go_wp2
   go_ret
   exact ⟨rfl,Z,H.out,Mz.refl _ _⟩
  ·rw [i1] at C1
   cases i2:AJ y
   ·rw [show BF none c y=3 by simp [BF,i2],show EF none up c y=none by simp [EF,BF,i2]]
    rw [i2] at C2
    clear h i1 i2
    go_enter func337,ntmps337
    go_wp2_with fail
    refine (C1.out _).mono ?_
    rintro e w1 ⟨rfl,rfl⟩
    go_wp2_with fail
    refine (C2.out _).mono ?_
    rintro e w1 ⟨rfl,rfl⟩
    go_wp2
    go_ret
    exact ⟨rfl,Z,H.out,Mz.refl _ _⟩
   ·rw [i2] at C2
    by_cases e:c=y
    ·rw [show BF none c y=2 by simp [BF,i2,e],show EF none up c y=none by simp [EF,BF,i2,e]]
     have ec:(c==y)=true:=by simpa using e
     clear h i1 i2 e
     go_enter func337,ntmps337
     go_wp2_with fail
     refine (C1.out _).mono ?_
     rintro e w1 ⟨rfl,rfl⟩
     go_wp2_with fail
     refine (C2.out _).mono ?_
     rintro e w1 ⟨rfl,rfl⟩
     go_wp2
     go_ret
     exact ⟨rfl,Z,H.out,Mz.refl _ _⟩
    ·rw [show BF none c y=0 by simp [BF,i1,i2,e],show EF none up c y=some ⟨up,c,y,0,false,false⟩ by simp [EF,BF,i1,i2,e]]
     have ec:(c==y)=false:=by simpa using e
     have C3:Hid (∀ w,_):=λw=>Tv up w
     have nl:=kZ up
     have C4:Hid (∀ _:Unit,_):=λ_=>GZ (nn up) w (by omega) (by omega)
     have HH:Hid (∀ w1,RN w1 w.heap.size (nn up) 0 false->Below w.heap.size w w1->w1.cell? ⟨s,0,none⟩=some (.pointer none)/\w1.frozen? ⟨s,0,none⟩=false/\(w1.alloc (.cells #[.pointer (some ⟨w.heap.size,0,none⟩),.bool up,.int .i64 c,.int .i64 y,.bool false] 221)).cell? ⟨s,0,none⟩=some (.pointer none)/\(w1.alloc (.cells #[.pointer (some ⟨w.heap.size,0,none⟩),.bool up,.int .i64 c,.int .i64 y,.bool false] 221)).frozen? ⟨s,0,none⟩=false/\∃ Z',PD ((w1.alloc (.cells #[.pointer (some ⟨w.heap.size,0,none⟩),.bool up,.int .i64 c,.int .i64 y,.bool false] 221)).setCell ⟨s,0,none⟩ (.pointer (some ⟨w1.heap.size,0,none⟩))) s Z' (some ⟨up,c,y,0,false,false⟩) P N/\Mz w ((w1.alloc (.cells #[.pointer (some ⟨w.heap.size,0,none⟩),.bool up,.int .i64 c,.int .i64 y,.bool false] 221)).setCell ⟨s,0,none⟩ (.pointer (some ⟨w1.heap.size,0,none⟩))) Z Z'):=λw1 rn b1=>by
      have h1:=h.AA (Fr.AE b1) (λj hj=>⟨h.lt j hj,by simp⟩)
      have kn:=AB.new w1 [.pointer (some ⟨w.heap.size,0,none⟩),.bool up,.int .i64 c,.int .i64 y,.bool false] 221
      have fa:Fr w1.heap.size [] w1 (w1.alloc (.cells #[.pointer (some ⟨w.heap.size,0,none⟩),.bool up,.int .i64 c,.int .i64 y,.bool false] 221)):=(Fr.refl _ _ _).alloc (ADW _) _
      have h2:=h1.AA fa (λj hj=>⟨h1.lt j hj,by simp⟩)
      refine ⟨h1.c0,h1.f0,h2.c0,h2.f0,?_⟩
      obtain ⟨w2,ew2⟩:∃ w2,w2=w1.alloc (.cells #[.pointer (some ⟨w.heap.size,0,none⟩),.bool up,.int .i64 c,.int .i64 y,.bool false] 221):=⟨_,rfl⟩
      have zs:w1.heap.size<w2.heap.size:=by rw [ew2];simp
      rw [<- ew2] at h2 fa ⊢
      have kn:AB w2 w1.heap.size _ _:=ew2 ▸ kn
      have rn2:=rn.AA fa rn.sb.lt (by simp)
      have f3:Fr w2.heap.size [s] w2 (w2.setCell ⟨s,0,none⟩ (.pointer (some ⟨w1.heap.size,0,none⟩))):=(Fr.refl _ _ _).setCell (Or.inr (by simp)) _
      have n1:w1.heap.size≠s:=by have:=h1.sb.lt;omega
      have n2:w.heap.size≠s:=by have:=h.sb.lt;omega
      have b3:=b1.size
      refine ⟨w.heap.size::w1.heap.size::Z,⟨_,_,h2.sb.set 0 _,⟨w1.heap.size,w.heap.size,false,rfl,⟨kn.AA f3 zs (by simp;exact n1),rn2.AA f3 rn2.sb.lt (by simp;exact n2),λ_ _=>rfl⟩,by simp,by simp⟩,(h2.pm.I6 f3 h2.sb).sub (λj hj=>by simp [hj]),by simp [h.sz],λj hj=>?_⟩,?_⟩
      ·have e3:=f3.size
       rcases AD0.1 hj with e | e
       ·omega
       ·rcases AD0.1 e with e | e
        ·omega
        ·have:=h2.lt j e
         omega
      ·refine ⟨(((Fr.AE b1).mono (ADW _) (by simp)).trans (fa.mono b3 (by simp))).trans (VN f3 (by omega) h.sz),λj hj=>?_⟩
       rcases AD0.1 hj with e | e
       ·exact Or.inr (by omega)
       ·rcases AD0.1 e with e | e
        ·exact Or.inr (by omega)
        ·exact Or.inl e
     generalize nn up=n at *
     clear h i1 i2 e nl
     go_enter func337,ntmps337
     go_wp2_with fail
     refine (C1.out _).mono ?_
     rintro e w1 ⟨rfl,rfl⟩
     go_wp2_with fail
     refine (C2.out _).mono ?_
     rintro e w1 ⟨rfl,rfl⟩
     go_wp2_with fail
     refine (C3.out _).mono ?_
     rintro e w1 ⟨rfl,rfl⟩
     go_wp2_with fail
     refine (C4.out ()).mono ?_
     rintro e w2 ⟨rfl,q2,b2⟩
     obtain ⟨g0,g1,g2,g4,g3⟩:=HH.out w2 q2 b2
     have G3:Hid _:=g3
     clear q2 b2 g3 HH H
     go_wp2
     go_ret
     exact ⟨rfl,G3.out⟩
def Zr (w:World) (h:PD w s Z R P N):
 Calls prog 123 #[.pointer (some ⟨s,0,none⟩)] w λe w'=>e=.returned (.int .i64 (doE R))/\∃ Z',PD w' s Z' (Zl R) P N/\Mz w w' Z Z':=by
 have H:Hid (PD w s Z R P N):=h
 obtain ⟨nv,mv,h⟩:=h
 have c0:=h.c0
 have pn:=h.pn
 cases R with
 | none=>
  obtain rfl:nv=.pointer none:=pn
  have C:Hid (∀ _:Unit,_):=λ_=>Bi w c0
  show Calls _ _ _ _ λe w'=>e=.returned (.int .i64 12)/\∃ Z',PD w' s Z' none P N/\Mz w w' Z Z'
  clear h c0
  go_enter func123,ntmps123
  go_wp2_with fail
  refine (C.out ()).mono ?_
  rintro e w1 ⟨z,rfl,k1,b1⟩
  have B1:Hid (Below w.heap.size w w1):=b1
  clear k1 b1
  go_wp2
  go_ret
  exact ⟨rfl,Z,H.out.below B1.out,Mz.AE B1.out (λ_ h=>h)⟩
 | some r=>
  obtain ⟨q,b,t,rfl,k,hq,hb⟩:=pn
  have C:Hid (∀ _:Unit,_):=λ_=>Bj w c0
  show Calls _ _ _ _ λe w'=>e=.returned (.int .i64 (Jz (nn r.up) r.d r.bk))/\∃ Z',PD w' s Z' (some ⟨r.up,r.cpu,r.co,E9 (nn r.up) r.d r.bk,r.bk,false⟩) P N/\Mz w w' Z Z'
  obtain ⟨h1,k1,f1⟩:=VM (r':=⟨r.up,r.cpu,r.co,r.d,r.bk,false⟩) (x:=false) h k hq hb ⟨rfl,rfl,rfl,rfl,rfl⟩ (λ_ _=>rfl)
  have d4:=k.c4
  have e4:=k.f4
  have g0:=k1.c0
  have A:Hid (∀ _:Unit,_):=λ_=>Zi _ k1.rn
  have E:Hid (∀ w',RN w' b (nn r.up) (E9 (nn r.up) r.d r.bk) r.bk->Fr (w.setCell ⟨q,4,none⟩ (.bool false)).heap.size [b] (w.setCell ⟨q,4,none⟩ (.bool false)) w'->∃ Z',PD w' s Z' (some ⟨r.up,r.cpu,r.co,E9 (nn r.up) r.d r.bk,r.bk,false⟩) P N/\Mz w w' Z Z'):=λw' rn f=>
   ⟨Z,⟨_,_,(Zp (r':=⟨r.up,r.cpu,r.co,E9 (nn r.up) r.d r.bk,r.bk,false⟩) h1 k1 hq hb rn f ⟨rfl,rfl,rfl,rfl,rfl⟩ (λ_ _=>rfl)).1⟩,(VN f1 (ADW _) hq).trans (VN f f1.size hb),λ_ h=>Or.inl h⟩
  generalize Jz (nn r.up) r.d r.bk=ee at *
  generalize E9 (nn r.up) r.d r.bk=dd at *
  clear h h1 k k1 f1 c0 H
  go_enter func123,ntmps123
  go_wp2_with fail
  refine (C.out ()).mono ?_
  rintro e w1 ⟨rfl,rfl⟩
  go_wp2_with fail
  refine (A.out ()).mono ?_
  rintro e w2 ⟨rfl,q2,f2⟩
  have G2:Hid _:=E.out w2 q2 f2
  clear q2 f2 A E
  go_wp2
  go_ret
  exact ⟨rfl,G2.out⟩
def fW (w:World) (h:PD w s Z R P N):
 Calls prog 126 #[.pointer (some ⟨s,0,none⟩)] w λe w'=>e=.returned (.tuple #[.int .i64 (Lc R),.int .i64 (Cy R)])/\∃ Z',PD w' s Z' (VL R) P N/\Mz w w' Z Z':=by
 have H:Hid (PD w s Z R P N):=h
 have V:Hid (∀ _:Unit,_):=λ_=>P8 w h
 obtain ⟨nv,mv,h⟩:=h
 have c0:=h.c0
 have pn:=h.pn
 cases R with
 | none=>
  obtain rfl:nv=.pointer none:=pn
  have C:Hid (∀ _:Unit,_):=λ_=>Bi w c0
  show Calls _ _ _ _ λe w'=>e=.returned (.tuple #[.int .i64 0,.int .i64 12])/\∃ Z',PD w' s Z' none P N/\Mz w w' Z Z'
  clear h c0 V
  go_enter func126,ntmps126
  go_wp2_with fail
  refine (C.out ()).mono ?_
  rintro e w1 ⟨z,rfl,k1,b1⟩
  have B1:Hid (Below w.heap.size w w1):=b1
  clear k1 b1
  go_wp2
  go_ret2
  exact ⟨rfl,Z,H.out.below B1.out,Mz.AE B1.out (λ_ h=>h)⟩
 | some r=>
  obtain ⟨q,b,t,rfl,k,hq,hb⟩:=pn
  have C:Hid (∀ _:Unit,_):=λ_=>Bj w c0
  unfold Lc Cy VL
  unfold NR at V
  dsimp only at V ⊢
  have hy:ov (nn r.up) r.d r.bk=true->Lb (nn r.up) r.d r.bk=if r.bk then 11 else 0:=λe=>by unfold Lb;rw [AHi e]
  have K:Hid (∀ w1,Below w.heap.size w w1->w1.cell? ⟨s,0,none⟩=some (.pointer (some ⟨q,0,none⟩))/\w1.frozen? ⟨s,0,none⟩=false/\(w1.setCell ⟨s,0,none⟩ (.pointer none)).cell? ⟨q,0,none⟩=some (.pointer (some ⟨b,0,none⟩))/\RN (w1.setCell ⟨s,0,none⟩ (.pointer none)) b (nn r.up) r.d r.bk/\PD (w1.setCell ⟨s,0,none⟩ (.pointer none)) s Z none P N/\Fr w.heap.size Z w (w1.setCell ⟨s,0,none⟩ (.pointer none))):=λw1 b1=>by
   have h1:=h.AA (Fr.AE b1) (λj hj=>⟨h.lt j hj,by simp⟩)
   have k1:=k.AA (Fr.AE b1) ⟨h.lt q hq,by simp⟩ ⟨h.lt b hb,by simp⟩
   have f1:Fr w1.heap.size [s] w1 (w1.setCell ⟨s,0,none⟩ (.pointer none)):=(Fr.refl _ _ _).setCell (Or.inr (by simp)) _
   have n1:q≠s:=k1.sb.ne h1.sb (by decide)
   have n2:b≠s:=k1.rn.sb.ne h1.sb (by decide)
   have k2:=k1.AA f1 ⟨k1.sb.lt,by simp;exact n1⟩ ⟨k1.rn.sb.lt,by simp;exact n2⟩
   exact ⟨h1.c0,h1.f0,k2.c0,k2.rn,⟨_,_,h1.sb.set 0 _,rfl,h1.pm.I6 f1 h1.sb,h.sz,λj hj=>AD7 (h1.lt j hj) f1.size⟩,((Fr.AE b1).mono (ADW _) (by simp)).trans (VN f1 b1.size h.sz)⟩
  cases e:ov (nn r.up) r.d r.bk
  ·rw [e] at V
   rw [AHh (by simp),AHh (by simp),AHh (by simp)]
   clear h k c0 hy e K
   go_enter func126,ntmps126
   go_wp2_with fail
   refine (C.out ()).mono ?_
   rintro e w1 ⟨rfl,rfl⟩
   go_wp2_with fail
   refine (V.out ()).mono ?_
   rintro e w2 ⟨rfl,b2⟩
   have B2:Hid (Below w1.heap.size w1 w2):=b2
   clear b2
   go_wp2
   go_ret2
   exact ⟨rfl,Z,H.out.below B2.out,Mz.AE B2.out (λ_ h=>h)⟩
  ·rw [e] at V
   rw [AHi rfl,AHi rfl,AHi rfl]
   have A:Hid (∀ w1,RN w1 b (nn r.up) r.d r.bk->_):=λw1 q=>fU w1 q
   rw [hy e] at A
   generalize (if r.bk=true then (11:Int) else 0)=ee at *
   clear h k c0 hy e H
   go_enter func126,ntmps126
   go_wp2_with fail
   refine (C.out ()).mono ?_
   rintro e w1 ⟨rfl,rfl⟩
   go_wp2_with fail
   refine (V.out ()).mono ?_
   rintro e w2 ⟨rfl,b2⟩
   obtain ⟨g0,g1,g2,g3,g4⟩:=K.out w2 b2
   have A2:Hid (∀ _:Unit,_):=λ_=>A.out _ g3
   have G4:Hid _:=g4
   clear b2 K g3 g4 A V
   go_wp2_with fail
   refine (A2.out ()).mono ?_
   rintro e w3 ⟨rfl,m3⟩
   have B3:Hid (Below (w2.setCell ⟨s,0,none⟩ (.pointer none)).heap.size (w2.setCell ⟨s,0,none⟩ (.pointer none)) w3):=m3.below (Below.refl _ _)
   clear m3
   go_wp2
   go_ret2
   have b3:=B3.out
   exact ⟨rfl,Z,G4.out.1.below b3,G4.out.2.trans ((Fr.AE b3).mono G4.out.2.size (by simp)),λ_ h=>Or.inl h⟩
def Zs (k:Int) (u f:Bool):Value:=.agg #[.int .i64 k,.bool u,.bool f]
def NU:List Value:=[.int .i64 0,.bool false,.bool false]
def Ds (h:AB w z NU t) (v0 v1 v2:Value):AB (((w.setCell ⟨z,0,none⟩ v0).setCell ⟨z,1,none⟩ v1).setCell ⟨z,2,none⟩ v2) z [v0,v1,v2] t:=((h.set 0 v0).set 1 v1).set 2 v2
def xU {B:Nat} {S:List Nat} {a:World} {g:Nat} (h:Fr B S a w) (hp:B<=g\/g∈S) (v0 v1 v2:Value):Fr B S a (((w.setCell ⟨g,0,none⟩ v0).setCell ⟨g,1,none⟩ v1).setCell ⟨g,2,none⟩ v2):=
 ((h.setCell (p:=⟨g,0,none⟩) hp v0).setCell (p:=⟨g,1,none⟩) hp v1).setCell (p:=⟨g,2,none⟩) hp v2
def Dt {k e:Int} {u f:Bool} {tmps:Array Value} (h:AB w z [.int .i64 k,.bool u,.bool f] 250) (h2:tmps.getD 2 undef=.pointer (some ⟨z,0,none⟩)) (h3:tmps.getD 3 undef=.int .i64 e):
 (results Tryz.f121 tmps).run prog w=.ok (.tuple #[Zs k u f,.int .i64 e]) w:=by
 have q0:w.cell? ⟨z,0,none⟩=some (.int .i64 k):=h.cell 0
 have q1:w.cell? ⟨z,1,none⟩=some (.bool u):=h.cell 1
 have q2:w.cell? ⟨z,2,none⟩=some (.bool f):=h.cell 2
 rw [results_cell_tmp (p:=2) (u:=3) (ty:=250) rfl,h2,h3]
 simp [go_sem,q0,q1,q2,Zs]
def fX {X:World} (e:w.heap.size=z) (hz:∀ k∈Z,k<w.heap.size) (h:PD X s Z R P N) (f:Fr w.heap.size Z w X) (v0 v1 v2:Value):
 ∃ Z',PD (((X.setCell ⟨z,0,none⟩ v0).setCell ⟨z,1,none⟩ v1).setCell ⟨z,2,none⟩ v2) s Z' R P N/\Mz w (((X.setCell ⟨z,0,none⟩ v0).setCell ⟨z,1,none⟩ v1).setCell ⟨z,2,none⟩ v2) Z Z':=by
 refine ⟨Z,h.AA (xU (Fr.refl X.heap.size [z] X) (Or.inr (by simp)) v0 v1 v2) (λk hk=>⟨?_,?_⟩),xU f (Or.inl (by omega)) v0 v1 v2,λ_ h=>Or.inl h⟩
 ·have:=hz k hk
  have:=f.size
  omega
 ·have:=hz k hk
  simp
  omega
def Zt {n d:Nat} {bk:Bool} (h:ov n d bk=true):DX n d bk=0:=by
 unfold ov at h
 unfold DX
 cases bk
 ·simp at h
  simp [h]
 ·simp at h
  simp [h]
def Zu (w:World) (h:PD w s Z R P N):
 Calls prog 121 #[.pointer (some ⟨s,0,none⟩)] w λe w'=>e=.returned (.tuple #[Zs ((FZ R:Nat):Int) (Fa R) (JO P R),.int .i64 (CV R)])/\∃ Z',PD w' s Z' (NT P R) (xN P R) N/\Mz w w' Z Z':=by
 obtain ⟨nv,mv,h⟩:=h
 obtain ⟨wa,hwa⟩:∃ wa,w.alloc (.cells #[.int .i64 0,.bool false,.bool false] 250)=wa:=⟨_,rfl⟩
 have HWA:Hid (w.alloc (.cells #[.int .i64 0,.bool false,.bool false] 250)=wa):=hwa
 have bl:Below w.heap.size w wa:=hwa ▸ (Below.refl _ _).alloc (ADW _) _
 have kz:AB wa w.heap.size NU 250:=hwa ▸ AB.new w NU _
 have h1:=h.AA (Fr.AE bl) (λj hj=>⟨h.lt j hj,by simp⟩)
 have HL:Hid (∀ k∈Z,k<w.heap.size):=h.lt
 have ZL:Hid (∀ (X:World) (R:Option Rq) (P:Int->Bool),PD X s Z R P N->Fr w.heap.size Z w X->∀ v0 v1 v2,∃ Z',PD (((X.setCell ⟨w.heap.size,0,none⟩ v0).setCell ⟨w.heap.size,1,none⟩ v1).setCell ⟨w.heap.size,2,none⟩ v2) s Z' R P N/\Mz w (((X.setCell ⟨w.heap.size,0,none⟩ v0).setCell ⟨w.heap.size,1,none⟩ v1).setCell ⟨w.heap.size,2,none⟩ v2) Z Z'):=λX R P h f=>fX rfl HL.out h f
 have FA:Hid (Fr w.heap.size Z w wa/\w.heap.size<=wa.heap.size):=⟨(Fr.AE bl).mono (ADW _) (by simp),bl.size⟩
 obtain ⟨z,hz⟩:∃ z,w.heap.size=z:=⟨_,rfl⟩
 have HZ:Hid (w.heap.size=z):=hz
 rw [hz] at kz ZL FA HL
 have zl:z<wa.heap.size:=kz.lt
 have KZ:Hid (AB wa z NU 250):=kz
 have c0:=h1.c0
 have pn:=h1.pn
 clear hwa bl hz kz h
 cases R with
 | none=>
  obtain rfl:nv=.pointer none:=pn
  have C:Hid (∀ _:Unit,_):=λ_=>Bi wa c0
  have HH:Hid (PD wa s Z none P N):=⟨_,_,h1⟩
  show Calls _ _ _ _ λe w'=>e=.returned (.tuple #[Zs 0 false false,.int .i64 12])/\∃ Z',PD w' s Z' none P N/\Mz w w' Z Z'
  clear h1 c0 HL
  go_enter func121,ntmps121
  go_wp2_with fail
  rw [HWA.out,HZ.out]
  refine (C.out ()).mono ?_
  rintro e w1 ⟨y,rfl,k1,b1⟩
  have kz:=KZ.out.AA (Fr.AE b1) zl (by simp)
  have KB:Hid (∀ v0 v1 v2:Value,_):=Ds kz
  have G:Hid (∀ v0 v1 v2:Value,_):=ZL.out w1 none P (HH.out.below b1) (FA.out.1.trans ((Fr.AE b1).mono FA.out.2 (by simp)))
  have z0:w1.cell? ⟨z,0,none⟩=some (.int .i64 0):=kz.cell 0
  have z1:w1.cell? ⟨z,1,none⟩=some (.bool false):=kz.cell 1
  have z2:w1.cell? ⟨z,2,none⟩=some (.bool false):=kz.cell 2
  have f0:=kz.free 0
  have f1:=kz.free 1
  have f2:=kz.free 2
  clear kz k1 b1 HH ZL KZ C zl
  go_wp2
  exact bodyPost_ret (Dt (KB.out _ _ _) rfl rfl) rfl ⟨rfl,G.out _ _ _⟩
 | some r=>
  obtain ⟨q,b,t,rfl,k,hq,hb⟩:=pn
  have C:Hid (∀ _:Unit,_):=λ_=>Bj wa c0
  have A:Hid (∀ _:Unit,_):=λ_=>IE wa k.rn
  have d0:=k.c0
  have K1:Hid (∀ w1,Sm w1 wa->Cj w1 s Z (.pointer (some ⟨q,0,none⟩)) mv (some r) P N/\RQ w1 q b r t/\AB w1 z NU 250/\Fr z Z w w1/\z<w1.heap.size):=λw1 m=>by
   have f1:Fr wa.heap.size [] wa w1:=m.fr (Fr.refl _ _ _)
   refine ⟨h1.AA f1 (λj hj=>⟨h1.lt j hj,by simp⟩),k.AA f1 ⟨h1.lt q hq,by simp⟩ ⟨h1.lt b hb,by simp⟩,KZ.out.AA f1 zl (by simp),FA.out.1.trans (f1.mono FA.out.2 (by simp)),by have:=f1.size;omega⟩
  unfold FZ Fa JO CV NT xN
  dsimp only
  cases eo:ov (nn r.up) r.d r.bk
  ·cases eb:r.bk
   · -- forward
    have hdn:r.d<nn r.up:=by
     have:=k.rn.dn
     rw [eb] at eo
     unfold ov at eo
     simp at eo
     omega
    have et:t=r.told:=k.tel eb hdn
    have hn10:=kZ r.up
    have hwf:(Lit.int .i64 (r.d:Int)).wf=true:=by
     simp [Lit.wf,IntKind.min,IntKind.max,IntKind.signed,IntKind.bits]
     omega
    have hd10:(r.d:Int)<=10:=by omega
    have efl:Gx P r=(P r.d&&!t):=by
     unfold Gx
     rw [eo,eb,et]
     simp
    have enx:IF P r=⟨r.up,r.cpu,r.co,r.d,P r.d&&!t,true⟩:=by
     unfold IF
     rw [eo,eb,efl]
     simp
    have HF:Hid (RN wa b (nn r.up) r.d r.bk):=k.rn
    have EB:Hid (r.bk=false):=eb
    have HD:Hid (r.d<nn r.up):=hdn
    rw [eo,eb,fT hdn] at A
    rw [efl,enx,fT hdn]
    have L:Hid (∀ w1,Cj w1 s Z (.pointer (some ⟨q,0,none⟩)) mv (some r) P N->(Instr.lookup 70 mv (.int .i64 (r.d:Int)) true).run prog w1=.ok (.tuple #[.agg #[],.bool (P r.d)]) w1):=λw1 h=>by
     rcases h.pm with ⟨rfl,hP⟩ | ⟨m,rfl,M,hm⟩
     ·rw [hP]
      exact pM w1 hwf
     ·exact pJ M hwf
    -- behind the store of told
    have T:Hid (∀ w1,Cj w1 s Z (.pointer (some ⟨q,0,none⟩)) mv (some r) P N->RQ w1 q b r t->AB w1 z NU 250->Fr z Z w w1->z<w1.heap.size->(w1.alloc (.cells #[] 277)).cell? ⟨q,4,none⟩=some (.bool t)/\(w1.alloc (.cells #[] 277)).frozen? ⟨q,4,none⟩=false/\Cj ((w1.alloc (.cells #[] 277)).setCell ⟨q,4,none⟩ (.bool true)) s Z (.pointer (some ⟨q,0,none⟩)) mv (some ⟨r.up,r.cpu,r.co,r.d,false,true⟩) P N/\RQ ((w1.alloc (.cells #[] 277)).setCell ⟨q,4,none⟩ (.bool true)) q b ⟨r.up,r.cpu,r.co,r.d,false,true⟩ true/\AB ((w1.alloc (.cells #[] 277)).setCell ⟨q,4,none⟩ (.bool true)) z NU 250/\Fr z Z w ((w1.alloc (.cells #[] 277)).setCell ⟨q,4,none⟩ (.bool true))):=λw1 h k kz fz zl=>by
     have fa:Fr w1.heap.size [] w1 (w1.alloc (.cells #[] 277)):=(Fr.refl _ _ _).alloc (ADW _) _
     have h2:=h.AA fa (λj hj=>⟨h.lt j hj,by simp⟩)
     have k2:=k.AA fa ⟨h.lt q hq,by simp⟩ ⟨h.lt b hb,by simp⟩
     obtain ⟨h3,k3,f3⟩:=VM (r':=⟨r.up,r.cpu,r.co,r.d,false,true⟩) (x:=true) h2 k2 hq hb ⟨rfl,rfl,rfl,rfl,EB.out.symm⟩ (λ_ _=>rfl)
     have nq:z≠q:=by have:=HL.out q hq;omega
     exact ⟨k2.c4,k2.f4,h3,k3,(kz.AA fa zl (by simp)).AA f3 (AD7 zl fa.size) (by simp;exact nq),(fz.trans (fa.mono (AFL zl) (by simp))).trans (f3.mono (ADd (AFL zl) fa.size) λj _ hj hm=>hj (by simp at hm;subst hm;exact hq))⟩
    by_cases hf:(P r.d&&!t)=true
    · -- it fails
     have hp:P r.d=true:=by cases e:P r.d <;> simp [e] at hf;rfl
     have ht:t=false:=by cases t <;> simp [hp] at hf;rfl
     subst ht
     rw [hf,AHi rfl]
     rw [hp] at L
     obtain ⟨m,rfl,hm⟩:∃ m,mv=.map (some m)/\m∈Z:=by
      rcases h1.pm with ⟨_,hP⟩ | ⟨m,e,_,hm⟩
      ·rw [hP] at hp
       cases hp
      ·exact ⟨m,e,hm⟩
     have D:Hid (∀ X,Cj X s Z (.pointer (some ⟨q,0,none⟩)) (.map (some m)) (some ⟨r.up,r.cpu,r.co,r.d,false,true⟩) P N->RQ X q b ⟨r.up,r.cpu,r.co,r.d,false,true⟩ true->AB X z NU 250->Fr z Z w X->z<=X.heap.size->∃ w2,(Builtin.delete_ #[70,3] 0 #[.map (some m),.int .i64 (r.d:Int)]).run prog X=.ok (.tuple #[]) w2/\w2.cell? ⟨q,0,none⟩=some (.pointer (some ⟨b,0,none⟩))/\RN w2 b (nn r.up) r.d false/\∀ w3,RN w3 b (nn r.up) r.d true->Fr w2.heap.size [b] w2 w3->AB w3 z NU 250/\PD w3 s Z (some ⟨r.up,r.cpu,r.co,r.d,true,true⟩) (λj=>!decide (j=(r.d:Int))&&P j) N/\Fr z Z w w3):=λX h k kz fz zx=>by
      have M:MS X m N P:=by
       rcases h.pm with ⟨e,_⟩ | ⟨m2,e,M,_⟩
       ·cases e
       ·cases e;exact M
      obtain ⟨w2,r2,M2,f2⟩:=xS M hwf 0
      have h2:=SV h hm M M2 f2
      have n1:q≠m:=λe=>M.AC k.sb e.symm
      have n2:b≠m:=λe=>M.AC k.rn.sb e.symm
      have n3:z≠m:=by have:=HL.out m hm;omega
      have n4:z≠b:=by have:=HL.out b hb;omega
      have k2:=k.AA f2 ⟨k.sb.lt,by simp;exact n1⟩ ⟨k.rn.sb.lt,by simp;exact n2⟩
      have kz2:=kz.AA f2 kz.lt (by simp;exact n3)
      have fz2:Fr z Z w w2:=fz.trans (f2.mono zx λj _ hj hm2=>hj (by simp at hm2;subst hm2;exact hm))
      refine ⟨w2,r2,k2.c0,k2.rn,λw3 rn f3=>⟨kz2.AA f3 kz2.lt (by simp;exact n4),⟨_,_,(Zp (r':=⟨r.up,r.cpu,r.co,r.d,true,true⟩) h2 k2 hq hb rn f3 ⟨rfl,rfl,rfl,rfl,rfl⟩ (λe _=>by cases e)).1⟩,fz2.trans (f3.mono (ADd zx f2.size) λj _ hj hm2=>hj (by simp at hm2;subst hm2;exact hb))⟩⟩
     have FL:Hid (∀ w2,RN w2 b (nn r.up) r.d false->_):=λw2 q=>Zj w2 q
     rw [show LZ (nn r.up) r.d false=0 by simp [LZ,Gc HD.out],show La (nn r.up) r.d false=true by simp [La,Gc HD.out]] at FL
     generalize hdd:r.d=dd at *
     clear h1 k c0 eo eb et efl enx hf hp hdn hn10 HF EB HD HL hwf FA KZ zl
     go_enter func121,ntmps121
     go_wp2_with fail
     rw [HWA.out,HZ.out]
     refine (C.out ()).mono ?_
     rintro e w1 ⟨rfl,rfl⟩
     go_wp2_with fail
     refine (A.out ()).mono ?_
     rintro e w1 ⟨rfl,m1⟩
     obtain ⟨h2,k2,kz,fz,zl2⟩:=K1.out w1 m1
     obtain ⟨g4,e4,h3,k3,kz3,fz3⟩:=T.out w1 h2 k2 kz fz zl2
     have l:=L.out w1 h2
     have c1:=h2.c1
     have s1:=h3.c1
     obtain ⟨w2,r2,g0,rn2,nx⟩:=D.out _ h3 k3 kz3 fz3 (by have:=fz3.size;have:=HZ.out;omega)
     have FL2:Hid (∀ _:Unit,_):=λ_=>FL.out w2 rn2
     have NX:Hid _:=nx
     clear m1 h2 k2 kz fz zl2 h3 k3 kz3 fz3 rn2 nx T D FL A K1
     go_wp2_with fail
     refine (FL2.out ()).mono ?_
     rintro e X ⟨rfl,rn3,f3⟩
     obtain ⟨kz,p3,fz3⟩:=NX.out X rn3 f3
     have KB:Hid (∀ v0 v1 v2:Value,_):=Ds kz
     have G:Hid (∀ v0 v1 v2:Value,_):=ZL.out X _ _ p3 fz3
     have z0:X.cell? ⟨z,0,none⟩=some (.int .i64 0):=kz.cell 0
     have z1:X.cell? ⟨z,1,none⟩=some (.bool false):=kz.cell 1
     have z2:X.cell? ⟨z,2,none⟩=some (.bool false):=kz.cell 2
     have f0:=kz.free 0
     have f1:=kz.free 1
     have f2:=kz.free 2
     clear kz p3 fz3 rn3 f3 ZL FL2 NX
     go_wp2
     exact bodyPost_ret (Dt (KB.out _ _ _) rfl rfl) rfl ⟨rfl,G.out _ _ _⟩
    · -- it does not
     have hf2:(P r.d&&!t)=false:=by simpa using hf
     rw [hf2,AHh (by simp)]
     have ht:(P r.d=false)\/(P r.d=true/\t=true):=by
      cases e:P r.d
      ·exact Or.inl rfl
      ·rw [e] at hf2
       simp at hf2
       exact Or.inr ⟨rfl,hf2⟩
     have FI:Hid (∀ X,Cj X s Z (.pointer (some ⟨q,0,none⟩)) mv (some ⟨r.up,r.cpu,r.co,r.d,false,true⟩) P N->Fr z Z w X->∀ v0 v1 v2,_):=λX h f=>ZL.out X _ P ⟨_,_,h⟩ f
     generalize hdd:r.d=dd at *
     clear h1 k c0 eo eb et efl enx hf hdn hn10 HF EB HD HL hwf FA KZ zl ZL
     rcases ht with hp | ⟨hp,ht⟩
     ·rw [hp] at L hf2
      go_enter func121,ntmps121
      go_wp2_with fail
      rw [HWA.out,HZ.out]
      refine (C.out ()).mono ?_
      rintro e w1 ⟨rfl,rfl⟩
      go_wp2_with fail
      refine (A.out ()).mono ?_
      rintro e w1 ⟨rfl,m1⟩
      obtain ⟨h2,k2,kz,fz,zl2⟩:=K1.out w1 m1
      obtain ⟨g4,e4,h3,k3,kz,fz3⟩:=T.out w1 h2 k2 kz fz zl2
      have l:=L.out w1 h2
      have c1:=h2.c1
      have KB:Hid (∀ v0 v1 v2:Value,_):=Ds kz
      have G:Hid (∀ v0 v1 v2:Value,_):=FI.out _ h3 fz3
      have z0:((w1.alloc (.cells #[] 277)).setCell ⟨q,4,none⟩ (.bool true)).cell? ⟨z,0,none⟩=some (.int .i64 0):=kz.cell 0
      have z1:((w1.alloc (.cells #[] 277)).setCell ⟨q,4,none⟩ (.bool true)).cell? ⟨z,1,none⟩=some (.bool false):=kz.cell 1
      have z2:((w1.alloc (.cells #[] 277)).setCell ⟨q,4,none⟩ (.bool true)).cell? ⟨z,2,none⟩=some (.bool false):=kz.cell 2
      have f0:=kz.free 0
      have f1:=kz.free 1
      have f2:=kz.free 2
      clear m1 h2 k2 kz fz zl2 h3 k3 fz3 T FI A K1 L
      go_wp2
      exact bodyPost_ret (Dt (KB.out _ _ _) rfl rfl) rfl ⟨rfl,G.out _ _ _⟩
     ·subst ht
      rw [hp] at L hf2
      go_enter func121,ntmps121
      go_wp2_with fail
      rw [HWA.out,HZ.out]
      refine (C.out ()).mono ?_
      rintro e w1 ⟨rfl,rfl⟩
      go_wp2_with fail
      refine (A.out ()).mono ?_
      rintro e w1 ⟨rfl,m1⟩
      obtain ⟨h2,k2,kz,fz,zl2⟩:=K1.out w1 m1
      obtain ⟨g4,e4,h3,k3,kz,fz3⟩:=T.out w1 h2 k2 kz fz zl2
      have l:=L.out w1 h2
      have c1:=h2.c1
      have KB:Hid (∀ v0 v1 v2:Value,_):=Ds kz
      have G:Hid (∀ v0 v1 v2:Value,_):=FI.out _ h3 fz3
      have z0:((w1.alloc (.cells #[] 277)).setCell ⟨q,4,none⟩ (.bool true)).cell? ⟨z,0,none⟩=some (.int .i64 0):=kz.cell 0
      have z1:((w1.alloc (.cells #[] 277)).setCell ⟨q,4,none⟩ (.bool true)).cell? ⟨z,1,none⟩=some (.bool false):=kz.cell 1
      have z2:((w1.alloc (.cells #[] 277)).setCell ⟨q,4,none⟩ (.bool true)).cell? ⟨z,2,none⟩=some (.bool false):=kz.cell 2
      have f0:=kz.free 0
      have f1:=kz.free 1
      have f2:=kz.free 2
      clear m1 h2 k2 kz fz zl2 h3 k3 fz3 T FI A K1 L
      go_wp2
      exact bodyPost_ret (Dt (KB.out _ _ _) rfl rfl) rfl ⟨rfl,G.out _ _ _⟩
   · -- back
    rw [eo,eb] at A
    have efl:Gx P r=false:=by unfold Gx;rw [eb];simp
    have enx:IF P r=r:=by unfold IF;rw [eb];simp
    rw [efl,enx,AHh (by simp),AHh (by simp)]
    generalize DX (nn r.up) r.d true=x at *
    clear h1 k c0 eo eb efl enx HL FA KZ zl
    go_enter func121,ntmps121
    go_wp2_with fail
    rw [HWA.out,HZ.out]
    refine (C.out ()).mono ?_
    rintro e w1 ⟨rfl,rfl⟩
    go_wp2_with fail
    refine (A.out ()).mono ?_
    rintro e w1 ⟨rfl,m1⟩
    obtain ⟨h2,k2,kz,fz,zl2⟩:=K1.out w1 m1
    have KB:Hid (∀ v0 v1 v2:Value,_):=Ds kz
    have G:Hid (∀ v0 v1 v2:Value,_):=ZL.out w1 _ _ ⟨_,_,h2⟩ fz
    have z0:w1.cell? ⟨z,0,none⟩=some (.int .i64 0):=kz.cell 0
    have z1:w1.cell? ⟨z,1,none⟩=some (.bool false):=kz.cell 1
    have z2:w1.cell? ⟨z,2,none⟩=some (.bool false):=kz.cell 2
    have f0:=kz.free 0
    have f1:=kz.free 1
    have f2:=kz.free 2
    clear m1 h2 k2 kz fz zl2 A K1 ZL
    go_wp2
    exact bodyPost_ret (Dt (KB.out _ _ _) rfl rfl) rfl ⟨rfl,G.out _ _ _⟩
  ·rw [eo,Zt eo] at A
   have efl:Gx P r=false:=by unfold Gx;rw [eo];simp
   have enx:IF P r=r:=by unfold IF;rw [eo];simp
   rw [efl,enx,Zt eo,AHi rfl,AHh (by simp)]
   show Calls _ _ _ _ λe w'=>e=.returned (.tuple #[Zs 0 false false,.int .i64 6])/\∃ Z',PD w' s Z' (some r) P N/\Mz w w' Z Z'
   generalize r.bk=x at *
   clear h1 k c0 eo efl enx HL FA KZ zl
   go_enter func121,ntmps121
   go_wp2_with fail
   rw [HWA.out,HZ.out]
   refine (C.out ()).mono ?_
   rintro e w1 ⟨rfl,rfl⟩
   go_wp2_with fail
   refine (A.out ()).mono ?_
   rintro e w1 ⟨rfl,m1⟩
   obtain ⟨h2,k2,kz,fz,zl2⟩:=K1.out w1 m1
   have KB:Hid (∀ v0 v1 v2:Value,_):=Ds kz
   have G:Hid (∀ v0 v1 v2:Value,_):=ZL.out w1 _ _ ⟨_,_,h2⟩ fz
   have z0:w1.cell? ⟨z,0,none⟩=some (.int .i64 0):=kz.cell 0
   have z1:w1.cell? ⟨z,1,none⟩=some (.bool false):=kz.cell 1
   have z2:w1.cell? ⟨z,2,none⟩=some (.bool false):=kz.cell 2
   have f0:=kz.free 0
   have f1:=kz.free 1
   have f2:=kz.free 2
   clear m1 h2 k2 kz fz zl2 A K1 ZL
   go_wp2
   exact bodyPost_ret (Dt (KB.out _ _ _) rfl rfl) rfl ⟨rfl,G.out _ _ _⟩
end Go.Proofs.YtdlhlfpigcgapaaGreatDoor.Hot

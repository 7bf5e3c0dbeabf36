import Derived.Test.YtdlhlfpigcgapaaGreatDoorAZal
import Derived.Test.YtdlhlfpigcgapaaGreatDoorAXs
import Derived.Laws.ResultCell
set_option maxRecDepth 100000
set_option maxHeartbeats 16000000
set_option linter.unusedVariables false
set_option linter.unusedSimpArgs false
set_option linter.defProp false
namespace Go.Proofs.YtdlhlfpigcgapaaGreatDoor.Tm
open Go.Proofs.Tryz
open Slt
open Mm Sl
variable {O:Nat->Bool} {i:Nat}
structure Th where
 prio:Int
 mask:Nat
 cpu:Int
 forced:Bool
 sleeps:Bool
 timer:Int
def zt:Th:=⟨0,0,0,false,false,0⟩
def nw (p:Int) (m:Nat):Th:=⟨p,m,0,false,false,0⟩
def sx (X:Nat->Th) (i:Nat) (t:Th):Nat->Th:=λj=>if j=i then t else X j
def Fo (X:Nat->Th) (i:Nat) (t:Th):sx X i t i=t:=AHi rfl
def Lp (X:Nat->Th) {j:Nat} (h:j≠i) (t:Th):sx X i t j=X j:=AHh h
def dn (O:Nat->Bool):List Nat:=(List.range 32).filter λi=>O (i+1)
def lo (O:Nat->Bool) (i:Nat):List Nat:=(List.range i).filter λj=>O (j+1)
def hi (O:Nat->Bool) (i:Nat):List Nat:=(List.range' (i+1) (31-i)).filter λj=>O (j+1)
def ABZ (O:Nat->Bool) (h:i<32):dn O=lo O i++(if O (i+1)=true then i::hi O i else hi O i):=by
 have e:List.range 32=List.range i++i::List.range' (i+1) (31-i):=by
  rw [AFY,AFY,<- List.range'_succ,show 31-i+1=32-i by omega]
  have:=AFm (s:=0) (m:=i) (n:=32-i)
  rw [ADs,show i+(32-i)=32 by omega] at this
  exact this.symm
 unfold dn lo hi
 rw [e,AEQ,AE4]
def DC {n:Int} (h:hs 32 O n=true):∃ i:Nat,i<32/\n=(i:Int)+1/\n.toNat-1=i/\O (i+1)=true:=by
 unfold hs at h
 rw [ADe] at h
 have h1:=of_decide_eq_true h.1
 have e:n.toNat=n.toNat-1+1:=by omega
 exact ⟨n.toNat-1,by omega,by omega,rfl,by rw [<- e];exact h.2⟩
def AB0:(ff 32 O=none/\(dn O).length=32)\/∃ i,ff 32 O=some i/\i<32/\O (i+1)=false/\lo O i=List.range i/\(dn O).length<32:=by
 cases e:ff 32 O with
 | none=>
  refine Or.inl ⟨rfl,?_⟩
  unfold ff at e
  rw [ADw] at e
  have:dn O=List.range 32:=by
   unfold dn
   rw [AEL]
   intro j hj
   simpa using e j hj
  rw [this]
  simp
 | some i=>
  unfold ff at e
  rw [AFK] at e
  obtain ⟨h1,h2,h3⟩:=e
  have h2':i<32:=ADk.1 h2
  have ho:O (i+1)=false:=by simpa using h1
  refine Or.inr ⟨i,rfl,h2',ho,?_,?_⟩
  ·unfold lo
   rw [AEL]
   intro j hj
   have:=h3 j (by simpa using hj)
   simpa using this
  ·rw [ABZ O h2',AHh (by rw [ho];simp),ADa]
   have a:=ADq (λj=>O (j+1)) (List.range i)
   have b:=ADq (λj=>O (j+1)) (List.range' (i+1) (31-i))
   rw [List.length_range] at a
   rw [List.length_range'] at b
   unfold lo hi
   omega
def can (c m:Nat):Bool:=decide (m≠0)&&decide (nt m (up (c:Int))=0)
def PI (c:Nat) (p:Int) (m:Nat):Bool:=decide (0<=p/\p<8)&&can c m
def Gl (c:Nat) (O:Nat->Bool) (p:Int) (m:Nat):Int:=if PI c p m=true then tN (ff 32 O) else 0
def LB (c:Nat) (O:Nat->Bool) (p:Int) (m:Nat):Int:=if PI c p m=true then tE (ff 32 O) else 2
def YC (c:Nat) (O:Nat->Bool) (p:Int) (m:Nat):Nat->Bool:=if PI c p m=true then tO O (ff 32 O) else O
def tX (X:Nat->Th) (t:Th):Option Nat->(Nat->Th) | some i=>sx X i t | none=>X
def RI (c:Nat) (O:Nat->Bool) (X:Nat->Th) (p:Int) (m:Nat):Nat->Th:=if PI c p m=true then tX X (nw p m) (ff 32 O) else X
def PJ (O:Nat->Bool) (X:Nat->Th) (n:Int):Nat->Th:=if hs 32 O n=true then sx X (n.toNat-1) zt else X
def Cc (O:Nat->Bool) (X:Nat->Th) (n:Int):Th:=if hs 32 O n=true then X (n.toNat-1) else zt
def B8 (c:Nat) (O:Nat->Bool) (n:Int) (m:Nat):Int:=if hs 32 O n=true then (if can c m=true then 0 else 2) else 4
def LC (c:Nat) (O:Nat->Bool) (X:Nat->Th) (n:Int) (m:Nat):Nat->Th:=if hs 32 O n=true/\can c m=true then sx X (n.toNat-1) { X (n.toNat-1) with mask:=m } else X
def Dk (c:Nat) (O:Nat->Bool) (n u:Int):Int:=if hs 32 O n=true then (if 0<=u/\u<c then 0 else 3) else 4
def GA (c:Nat) (O:Nat->Bool) (X:Nat->Th) (n u:Int) (f:Bool):Nat->Th:=if hs 32 O n=true/\(0<=u/\u<c) then sx X (n.toNat-1) { X (n.toNat-1) with cpu:=u,forced:=f } else X
def MW (O:Nat->Bool) (X:Nat->Th) (n:Int):Int:=if hs 32 O n=true then (if (X (n.toNat-1)).sleeps=true then 6 else 0) else 4
def Jb (O:Nat->Bool) (X:Nat->Th) (n t:Int):Nat->Th:=if hs 32 O n=true/\(X (n.toNat-1)).sleeps=false then sx X (n.toNat-1) { X (n.toNat-1) with sleeps:=true,timer:=t } else X
def Ax (O:Nat->Bool) (X:Nat->Th) (n:Int):Int:=if hs 32 O n=true then (if (X (n.toNat-1)).sleeps=true then 0 else 6) else 4
def EK (O:Nat->Bool) (X:Nat->Th) (n:Int):Int:=if hs 32 O n=true/\(X (n.toNat-1)).sleeps=true then (X (n.toNat-1)).timer else 0
def MX (O:Nat->Bool) (X:Nat->Th) (n:Int):Nat->Th:=if hs 32 O n=true/\(X (n.toNat-1)).sleeps=true then sx X (n.toNat-1) { X (n.toNat-1) with sleeps:=false,timer:=0 } else X
end Go.Proofs.YtdlhlfpigcgapaaGreatDoor.Tm
namespace Go.Proofs.YtdlhlfpigcgapaaGreatDoor.Thr
open Go.Proofs.Tryz
open Slt
open Go.ChangeShapes Go.WideShapes Go.ChangeAt Go.RowKit
open Mm Sl Tm
variable {O:Nat->Bool} {X:Nat->Th} {cs:List Value} {w w':World} {B c i o s z:Nat} {t:Th}
def Dl (cs:List Value) (o:Nat) (t:Th):Prop:=
 cs[o]?=some (.int .i64 t.prio)/\cs[o+1]?=some (.int .u64 (t.mask:Int))/\cs[o+2]?=some (.int .i64 t.cpu)/\cs[o+3]?=some (.bool t.forced)/\cs[o+4]?=some (.bool t.sleeps)/\cs[o+5]?=some (.int .i64 t.timer)
structure Cs (cs:List Value) (s c:Nat) (X:Nat->Th):Prop where
 len:cs.length=194
 p:cs[0]?=some (.pointer (some ⟨s+1,0,none⟩))
 m:cs[1]?=some (.int .u64 ((up (c:Int):Nat):Int))
 t:∀ i,i<32->Dl cs (2+i*6) (X i)
def Cs.EL {cs':List Value} (h:Cs cs s c X) (hl:cs'.length=cs.length) (ho:∀ k,(k<2+i*6\/2+i*6+6<=k)->cs'[k]?=cs[k]?) (h6:Dl cs' (2+i*6) t):Cs cs' s c (sx X i t):=by
 refine ⟨hl.trans h.len,(ho 0 (by omega)).trans h.p,(ho 1 (by omega)).trans h.m,λj hj=>?_⟩
 by_cases e:j=i
 ·subst e
  rw [Fo]
  exact h6
 ·rw [Lp X e]
  obtain ⟨a0,a1,a2,a3,a4,a5⟩:=h.t j hj
  exact ⟨(ho _ (by omega)).trans a0,(ho _ (by omega)).trans a1,(ho _ (by omega)).trans a2,(ho _ (by omega)).trans a3,(ho _ (by omega)).trans a4,(ho _ (by omega)).trans a5⟩
structure TT (w:World) (s c:Nat) (O:Nat->Bool) (X:Nat->Th):Prop where
 sl:∃ W,T w (s+1) s 32 W O
 bk:∃ cs,AB w (s+2) cs 141/\Cs cs s c X
 c1:1<=c
 c2:c<=64
def TT.hi (h:TT w s c O X):s+3<=w.heap.size:=by
 obtain ⟨cs,hb,_⟩:=h.bk
 have:=hb.lt
 omega
def TT.AA {B:Nat} {S:List Nat} {w w':World} {s c:Nat} {O:Nat->Bool} {X:Nat->Th} (h:TT w s c O X) (f:Fr B S w w') (hB:s+3<=B) (hS:∀ k,s<=k->k<s+3->k∉S):TT w' s c O X:=by
 obtain ⟨W,hw⟩:=h.sl
 obtain ⟨cs,hb,hc⟩:=h.bk
 exact ⟨⟨W,hw.AA f ⟨by omega,by omega⟩ ⟨hS _ (by omega) (by omega),hS _ (by omega) (by omega)⟩⟩,⟨cs,hb.AA f (by omega) (hS _ (by omega) (by omega)),hc⟩,h.c1,h.c2⟩
def TT.below (h:TT w s c O X) (f:Below w.heap.size w w'):TT w' s c O X:=h.AA (Fr.AE f) h.hi λ_ _ _=>by simp
def TT.k0 (h:TT w s c O X):w.cell? ⟨s+2,0,none⟩=some (.pointer (some ⟨s+1,0,none⟩)):=by
 obtain ⟨cs,hb,hc⟩:=h.bk
 rw [hb.cell,hc.p]
def TT.k1 (h:TT w s c O X):w.cell? ⟨s+2,1,none⟩=some (.int .u64 ((up (c:Int):Nat):Int)):=by
 obtain ⟨cs,hb,hc⟩:=h.bk
 rw [hb.cell,hc.m]
def TT.free {w:World} {s c:Nat} {O:Nat->Bool} {X:Nat->Th} (h:TT w s c O X) (k:Nat):w.frozen? ⟨s+2,k,none⟩=false:=by
 obtain ⟨cs,hb,hc⟩:=h.bk
 exact hb.free k
def TT.DP (h:TT w s c O X) (hi:i<32):
 w.cell? ⟨s+2,2+i*6,none⟩=some (.int .i64 (X i).prio)/\w.cell? ⟨s+2,2+i*6+1,none⟩=some (.int .u64 ((X i).mask:Int))/\w.cell? ⟨s+2,2+i*6+2,none⟩=some (.int .i64 (X i).cpu)/\w.cell? ⟨s+2,2+i*6+3,none⟩=some (.bool (X i).forced)/\w.cell? ⟨s+2,2+i*6+4,none⟩=some (.bool (X i).sleeps)/\w.cell? ⟨s+2,2+i*6+5,none⟩=some (.int .i64 (X i).timer):=by
 obtain ⟨cs,hb,hc⟩:=h.bk
 obtain ⟨a0,a1,a2,a3,a4,a5⟩:=hc.t i hi
 exact ⟨(hb.cell _).trans a0,(hb.cell _).trans a1,(hb.cell _).trans a2,(hb.cell _).trans a3,(hb.cell _).trans a4,(hb.cell _).trans a5⟩
def PK (m:Nat) (w:World) (hm:m<18446744073709551616) (h:TT w s c O X):
 Calls prog 198 #[.pointer (some ⟨s+2,0,none⟩),.int .u64 (m:Int)] w λe w'=>e=.returned (.bool (can c m))/\w'=w:=by
 have C1:Hid (∀ w,_):=λw=>CQ m w hm
 have k1:=h.k1
 by_cases h0:m=0
 ·subst h0
  rw [show can c 0=false from rfl]
  rw [show (ls 0).length=0 by rw [ET];rfl] at C1
  clear h k1 hm
  go_enter func198,ntmps198
  go_wp2_with fail
  refine (C1.out _).mono ?_
  rintro e w' ⟨rfl,rfl⟩
  go_wp2
  go_ret
  exact ⟨rfl,rfl⟩
 ·have C2:Hid (∀ w,_):=λw=>LA m (up (c:Int)) w hm (Dy _)
  have hp:(0:Int)<((ls m).length:Int):=by
   have:(ls m).length≠0:=λe=>h0 (Er m hm (ADh e))
   omega
  have hl:=KU m
  rw [show can c m=(((nt m (up (c:Int)):Nat):Int)==0) by
   unfold can
   rw [AHj h0,AEC]
   by_cases e:nt m (up (c:Int))=0
   ·rw [e];rfl
   ·rw [AHk e];symm;rw [AHl];omega]
  generalize nt m (up (c:Int))=P at *
  generalize up (c:Int)=U at *
  generalize (ls m).length=n at *
  clear h hm h0
  go_enter func198,ntmps198
  go_wp2_with fail
  refine (C1.out _).mono ?_
  rintro e w' ⟨rfl,rfl⟩
  go_wp2_with fail
  refine (C2.out _).mono ?_
  rintro e w' ⟨rfl,rfl⟩
  go_wp2
  go_ret
  exact ⟨rfl,rfl⟩
def YD (m:Nat) (w:World) (h1:(1:Int)<=m) (h2:(m:Int)<=1024):
 Calls prog 64 #[.int .i64 (m:Int)] w λe w'=>e=.returned (.tuple #[.pointer (some ⟨w.heap.size+1,0,none⟩),.int .i64 0])/\(∃ W,T w' (w.heap.size+1) w.heap.size m W λ_=>false)/\Below w.heap.size w w'/\w'.heap.size=w.heap.size+2:=by
 obtain ⟨n,hn⟩:∃ n,(m+63) / 64=n:=⟨_,rfl⟩
 have G:=X0 m (by omega) (by omega)
 rw [hn] at G
 have hq:((m:Int)+64-1).tdiv 64=(n:Int):=by rw [Int.tdiv_eq_ediv_of_nonneg (by omega)];omega
 have hmk:=run_make_row' (P:=prog) 222 28 (.int .u64 0) 8 underlying222 Tryz.kC rfl .i64 .i64 n (by omega) (by omega)
 have F:Hid (∀ o1 o2,Below w.heap.size w ((w.alloc o1).alloc o2)):=λo1 o2=>((Below.refl _ _).alloc (ADW _) o1).alloc (by simp) o2
 have HG:Hid (Wd m (List.replicate n 0) λ_=>false):=G
 clear G
 go_enter func64,ntmps64
 go_wp2
 go_ret2
 refine ⟨rfl,⟨List.replicate n 0,?_,?_,HG.out⟩,F.out _ _,by simp⟩
 ·have:=AB.new (w.alloc (Obj.cells (madeCells #[Value.int IntKind.u64 0] n) 28)) [.slice (some ⟨w.heap.size,0,none⟩) n n,.int .i64 (m:Int)] 224
  simpa using this
 ·rw [PA]
  exact (AB.new w _ 28).alloc _
def YE (L:List Value) (hL:L.length=6):∀ n i j,i<n->j<6->(List.replicate n L).flatten[i*6+j]?=L[j]?
 | 0,i,j,h,_=>by omega
 | n+1,i,j,h,hj=>by
  rw [AEw,List.flatten_cons]
  cases i with
  | zero=>rw [ADl (by omega),AEy,ADs]
  | succ i=>rw [ADj (by omega),show (i+1)*6+j-L.length=i*6+j by omega];exact YE L hL n i j (by omega) hj
def z6:List Value:=[.int .i64 0,.int .u64 0,.int .i64 0,.bool false,.bool false,.int .i64 0]
def AB1:Tryz.zeroCells141.toList=.pointer none::.int .u64 0::(List.replicate 32 z6).flatten:=by kernel_rfl
def RJ (s c:Nat):Cs ((Tryz.zeroCells141.setIfInBounds 0 (.pointer (some ⟨s+1,0,none⟩))).setIfInBounds 1 (.int .u64 ((up (c:Int):Nat):Int))).toList s c λ_=>zt:=by
 rw [AF3,AF3,AB1]
 simp only [AD5,AD2]
 refine ⟨by rfl,rfl,rfl,λi hi=>?_⟩
 have g:∀ j,j<6->(.pointer (some ⟨s+1,0,none⟩)::.int .u64 ((up (c:Int):Nat):Int)::(List.replicate 32 z6).flatten:List Value)[2+i*6+j]?=z6[j]?:=λj hj=>by
  rw [show 2+i*6+j=i*6+j+1+1 by omega,ADf,ADf]
  exact YE z6 rfl 32 i j hi hj
 exact ⟨g 0 (by omega),g 1 (by omega),g 2 (by omega),g 3 (by omega),g 4 (by omega),g 5 (by omega)⟩
def YF (c:Nat) (w:World) (h1:(1:Int)<=c) (h2:(c:Int)<=64):
 Calls prog 26 #[.int .i64 (c:Int)] w λe w'=>e=.returned (.tuple #[.pointer (some ⟨w.heap.size+2,0,none⟩),.int .i64 0])/\TT w' w.heap.size c (λ_=>false) (λ_=>zt)/\Below w.heap.size w w'/\w'.heap.size=w.heap.size+3:=by
 have C1:Hid (∀ _:Unit,_):=λ_=>YD 32 w (by decide) (by decide)
 have C2:Hid (∀ w,_):=λw=>Dj (c:Int) w
 obtain ⟨s,hs⟩:∃ s,w.heap.size=s:=⟨_,rfl⟩
 rw [hs] at C1 ⊢
 clear hs
 go_enter func26,ntmps26
 go_wp2_with fail
 refine (C1.out ()).mono ?_
 rintro e w1 ⟨rfl,⟨W1,q1⟩,f1,z1⟩
 have Q1:Hid (T w1 (s+1) s 32 W1 λ_=>false):=q1
 have F1:Hid (Below s w w1):=f1
 have Z1:Hid (w1.heap.size=s+2):=z1
 clear q1 f1 z1
 go_wp2_with fail
 refine (C2.out _).mono ?_
 rintro e w2 ⟨rfl,rfl⟩
 go_wp2
 go_ret2
 rw [<- Z1.out]
 refine ⟨rfl,⟨⟨W1,?_⟩,⟨_,?_,RJ s c⟩,by omega,by omega⟩,F1.out.alloc (by have:=Z1.out;omega) _,by simp [Z1.out]⟩
 ·exact Q1.out.AA (B:=w2.heap.size) (S:=[]) ((Fr.refl _ _ _).alloc (ADW _) _) ⟨Q1.out.sb.lt,Q1.out.sg.lt⟩ ⟨by simp,by simp⟩
 ·have:=AB.new w2 ((Tryz.zeroCells141.setIfInBounds 0 (.pointer (some ⟨s+1,0,none⟩))).setIfInBounds 1 (.int .u64 ((up (c:Int):Nat):Int))).toList 141
  rw [AEn,Z1.out] at this
  exact this
def DD (n:Int) (w:World) (h:TT w s c O X):
 Calls prog 201 #[.pointer (some ⟨s+2,0,none⟩),.int .i64 n] w λe w'=>e=.returned (if hs 32 O n=true then .tuple #[.pointer (some ⟨s+2,2+(n.toNat-1)*6,none⟩),.int .i64 0] else .tuple #[.pointer none,.int .i64 4])/\w'=w:=by
 have C1:Hid (∀ _:Unit,_):=λ_=>h.sl.elim λW hw=>Hn n w hw
 have k0:=h.k0
 cases e:hs 32 O n with
 | false=>
  rw [e] at C1
  rw [AHh (by simp)]
  clear h e
  go_enter func201,ntmps201
  go_wp2_with fail
  refine (C1.out ()).mono ?_
  rintro e w' ⟨rfl,rfl⟩
  go_wp2
  go_ret2
  exact ⟨rfl,rfl⟩
 | true=>
  rw [e] at C1
  rw [AHi rfl]
  obtain ⟨i,hi,rfl,e2,_⟩:=DC e
  rw [e2]
  have hi2:(i:Int)<32:=by omega
  clear h e e2
  go_enter func201,ntmps201
  go_wp2_with fail
  refine (C1.out ()).mono ?_
  rintro e w' ⟨rfl,rfl⟩
  go_wp2
  go_ret2
  exact ⟨rfl,rfl⟩
def V4 (w:World) (h:TT w s c O X) (ht:A9 w) (h0:0<w.heap.size):
 Calls prog 253 #[.pointer (some ⟨s+2,0,none⟩)] w λe w'=>∃ v,e=.returned v/\Gt w w' v (li 32 O):=by
 have C1:Hid (∀ _:Unit,_):=λ_=>h.sl.elim λW hw=>Ik w hw ht h0
 have k0:=h.k0
 clear h ht h0
 go_enter func253,ntmps253
 go_wp2_with fail
 refine (C1.out ()).mono ?_
 rintro e w1 ⟨v,rfl,g⟩
 obtain ⟨a,cap,rfl⟩:=An g.own
 have G:Hid (Gt w w1 _ (li 32 O)):=g
 clear g k0
 go_wp2
 go_ret
 exact ⟨_,rfl,G.out⟩
def uS (t:Th):Value:=.agg #[.int .i64 t.prio,.int .u64 (t.mask:Int),.int .i64 t.cpu,.bool t.forced,.bool t.sleeps,.int .i64 t.timer]
def wz (w:World):World:=w.alloc (.cells #[.int .i64 0,.int .u64 0,.int .i64 0,.bool false,.bool false,.int .i64 0] 138)
def dH (w:World):Below w.heap.size w (wz w):=(Below.refl _ _).alloc (ADW _) _
def uT (w:World):AB (wz w) w.heap.size z6 138:=AB.new w _ _
def mR {t:TypeId} (h:AB w z z6 t) (v0 v1 v2 v3 v4 v5:Value):AB ((((((w.setCell ⟨z,0,none⟩ v0).setCell ⟨z,1,none⟩ v1).setCell ⟨z,2,none⟩ v2).setCell ⟨z,3,none⟩ v3).setCell ⟨z,4,none⟩ v4).setCell ⟨z,5,none⟩ v5) z [v0,v1,v2,v3,v4,v5] t:=
 (((((h.set 0 v0).set 1 v1).set 2 v2).set 3 v3).set 4 v4).set 5 v5
def MY {S:List Nat} {a:World} {g:Nat} (h:Fr B S a w) (hp:B<=g\/g∈S) (v0 v1 v2 v3 v4 v5:Value):Fr B S a ((((((w.setCell ⟨g,o,none⟩ v0).setCell ⟨g,o+1,none⟩ v1).setCell ⟨g,o+2,none⟩ v2).setCell ⟨g,o+3,none⟩ v3).setCell ⟨g,o+4,none⟩ v4).setCell ⟨g,o+5,none⟩ v5):=
 (((((h.setCell (p:=⟨g,o,none⟩) hp v0).setCell (p:=⟨g,o+1,none⟩) hp v1).setCell (p:=⟨g,o+2,none⟩) hp v2).setCell (p:=⟨g,o+3,none⟩) hp v3).setCell (p:=⟨g,o+4,none⟩) hp v4).setCell (p:=⟨g,o+5,none⟩) hp v5
def Ua {e:Int} {tmps:Array Value} (h:AB w z [.int .i64 t.prio,.int .u64 (t.mask:Int),.int .i64 t.cpu,.bool t.forced,.bool t.sleeps,.int .i64 t.timer] 138) (h4:tmps.getD 4 undef=.pointer (some ⟨z,0,none⟩)) (h5:tmps.getD 5 undef=.int .i64 e):
 (results Tryz.f138 tmps).run prog w=.ok (.tuple #[uS t,.int .i64 e]) w:=by
 have q0:w.cell? ⟨z,0,none⟩=some (.int .i64 t.prio):=h.cell 0
 have q1:w.cell? ⟨z,1,none⟩=some (.int .u64 (t.mask:Int)):=h.cell 1
 have q2:w.cell? ⟨z,2,none⟩=some (.int .i64 t.cpu):=h.cell 2
 have q3:w.cell? ⟨z,3,none⟩=some (.bool t.forced):=h.cell 3
 have q4:w.cell? ⟨z,4,none⟩=some (.bool t.sleeps):=h.cell 4
 have q5:w.cell? ⟨z,5,none⟩=some (.int .i64 t.timer):=h.cell 5
 rw [results_cell_tmp (p:=4) (u:=5) (ty:=138) rfl,h4,h5]
 simp [go_sem,q0,q1,q2,q3,q4,q5,uS]
def YG (n:Int) (w:World) (h:TT w s c O X):
 Calls prog 138 #[.pointer (some ⟨s+2,0,none⟩),.int .i64 n] w λe w'=>e=.returned (.tuple #[uS (Cc O X n),.int .i64 (if hs 32 O n=true then 0 else 4)])/\Below w.heap.size w w':=by
 obtain ⟨wa,hwa⟩:∃ wa,wz w=wa:=⟨_,rfl⟩
 have HWA:Hid (w.alloc (.cells #[.int .i64 0,.int .u64 0,.int .i64 0,.bool false,.bool false,.int .i64 0] 138)=wa):=hwa
 have hb:=dH w
 have hk:=uT w
 rw [hwa] at hb hk
 have h1:=h.below hb
 have C1:Hid (∀ _:Unit,_):=λ_=>DD n wa h1
 have BL:Hid (Fr w.heap.size [] w wa):=Fr.AE hb
 obtain ⟨z,hz⟩:∃ z,w.heap.size=z:=⟨_,rfl⟩
 have HZ:Hid (w.heap.size=z):=hz
 rw [hz] at hk BL ⊢
 have KB:Hid (∀ v0 v1 v2 v3 v4 v5:Value,_):=mR hk
 have z0:wa.cell? ⟨z,0,none⟩=some (.int .i64 0):=hk.cell 0
 have z1:wa.cell? ⟨z,1,none⟩=some (.int .u64 0):=hk.cell 1
 have z2:wa.cell? ⟨z,2,none⟩=some (.int .i64 0):=hk.cell 2
 have z3:wa.cell? ⟨z,3,none⟩=some (.bool false):=hk.cell 3
 have z4:wa.cell? ⟨z,4,none⟩=some (.bool false):=hk.cell 4
 have z5:wa.cell? ⟨z,5,none⟩=some (.int .i64 0):=hk.cell 5
 have f0:=hk.free 0
 have f1:=hk.free 1
 have f2:=hk.free 2
 have f3:=hk.free 3
 have f4:=hk.free 4
 have f5:=hk.free 5
 clear hwa hb hk h hz
 cases e:hs 32 O n with
 | false=>
  rw [e,AHh (by simp)] at C1
  rw [show Cc O X n=zt by unfold Cc;rw [e];rfl,AHh (by simp)]
  clear h1 e
  go_enter func138,ntmps138
  go_wp2_with fail
  rw [HWA.out,HZ.out]
  refine (C1.out ()).mono ?_
  rintro e w' ⟨rfl,rfl⟩
  go_wp2
  exact bodyPost_ret (Ua (t:=zt) (KB.out _ _ _ _ _ _) rfl rfl) rfl ⟨rfl,(MY BL.out (Or.inl (ADW _)) _ _ _ _ _ _).below (by simp)⟩
 | true=>
  rw [e,AHi rfl] at C1
  rw [show Cc O X n=X (n.toNat-1) by unfold Cc;rw [e];rfl,AHi rfl]
  obtain ⟨i,hi,rfl,e2,_⟩:=DC e
  rw [e2] at C1 ⊢
  obtain ⟨a0,a1,a2,a3,a4,a5⟩:=h1.DP hi
  clear h1 e e2
  go_enter func138,ntmps138
  go_wp2_with fail
  rw [HWA.out,HZ.out]
  refine (C1.out ()).mono ?_
  rintro e w' ⟨rfl,rfl⟩
  go_wp2
  exact bodyPost_ret (Ua (t:=X i) (KB.out _ _ _ _ _ _) rfl rfl) rfl ⟨rfl,(MY BL.out (Or.inl (ADW _)) _ _ _ _ _ _).below (by simp)⟩
def Hq (cs:List Value) (o j k:Nat) (v:Value) (h:o+j<cs.length):(cs.set (o+j) v)[o+k]?=if k=j then some v else cs[o+k]?:=by
 rw [AD6]
 by_cases e:k=j
 ·subst e
  rw [AHi rfl,AHi h,AHi rfl]
 ·rw [AHh (by omega),AHh e]
def mS (cs:List Value) (o j k:Nat) (v:Value) (hj:j<6) (h:k<o\/o+6<=k):(cs.set (o+j) v)[k]?=cs[k]?:=by
 rw [AD6,AHh (by omega)]
def RK (h:Dl cs o t) (hl:o+5<cs.length) (m:Nat):Dl (cs.set (o+1) (.int .u64 (m:Int))) o { t with mask:=m }:=by
 obtain ⟨a0,a1,a2,a3,a4,a5⟩:=h
 have g:=λk=>Hq cs o 1 k (.int .u64 (m:Int)) (by omega)
 exact ⟨(g 0).trans a0,g 1,(g 2).trans a2,(g 3).trans a3,(g 4).trans a4,(g 5).trans a5⟩
def Ub (h:Dl cs o t) (hl:o+5<cs.length) (u:Int):Dl (cs.set (o+2) (.int .i64 u)) o { t with cpu:=u }:=by
 obtain ⟨a0,a1,a2,a3,a4,a5⟩:=h
 have g:=λk=>Hq cs o 2 k (.int .i64 u) (by omega)
 exact ⟨(g 0).trans a0,(g 1).trans a1,g 2,(g 3).trans a3,(g 4).trans a4,(g 5).trans a5⟩
def MZ (h:Dl cs o t) (hl:o+5<cs.length) (u:Bool):Dl (cs.set (o+3) (.bool u)) o { t with forced:=u }:=by
 obtain ⟨a0,a1,a2,a3,a4,a5⟩:=h
 have g:=λk=>Hq cs o 3 k (.bool u) (by omega)
 exact ⟨(g 0).trans a0,(g 1).trans a1,(g 2).trans a2,g 3,(g 4).trans a4,(g 5).trans a5⟩
def Im (h:Dl cs o t) (hl:o+5<cs.length) (u:Bool):Dl (cs.set (o+4) (.bool u)) o { t with sleeps:=u }:=by
 obtain ⟨a0,a1,a2,a3,a4,a5⟩:=h
 have g:=λk=>Hq cs o 4 k (.bool u) (by omega)
 exact ⟨(g 0).trans a0,(g 1).trans a1,(g 2).trans a2,(g 3).trans a3,g 4,(g 5).trans a5⟩
def Jc (h:Dl cs o t) (hl:o+5<cs.length) (u:Int):Dl (cs.set (o+5) (.int .i64 u)) o { t with timer:=u }:=by
 obtain ⟨a0,a1,a2,a3,a4,a5⟩:=h
 have g:=λk=>Hq cs o 5 k (.int .i64 u) (by omega)
 exact ⟨(g 0).trans a0,(g 1).trans a1,(g 2).trans a2,(g 3).trans a3,(g 4).trans a4,g 5⟩
def dI (h:Dl cs o t) (hl:o+5<cs.length) (u:Int):Dl (cs.set o (.int .i64 u)) o { t with prio:=u }:=by
 obtain ⟨a0,a1,a2,a3,a4,a5⟩:=h
 have g:=λk=>Hq cs o 0 k (.int .i64 u) (by omega)
 exact ⟨g 0,(g 1).trans a1,(g 2).trans a2,(g 3).trans a3,(g 4).trans a4,(g 5).trans a5⟩
def Qc (X:Nat->Th) (i:Nat) (t u:Th):sx (sx X i t) i u=sx X i u:=by
 funext j
 unfold sx
 split <;> rfl
def D2 (h:TT w s c O X) (hi:i<32) (j:Nat) (hj:j<6) (v:Value) (t:Th) (h6:∀ cs,Dl cs (2+i*6) (X i)->2+i*6+5<cs.length->Dl (cs.set (2+i*6+j) v) (2+i*6) t):TT (w.setCell ⟨s+2,2+i*6+j,none⟩ v) s c O (sx X i t):=by
 obtain ⟨W,hw⟩:=h.sl
 obtain ⟨cs,hb,hc⟩:=h.bk
 refine ⟨⟨W,hw.AA (B:=w.heap.size) (S:=[s+2]) ((Fr.refl _ _ _).setCell (Or.inr (by simp)) v) ⟨hw.sb.lt,hw.sg.lt⟩ ⟨by simp,by simp⟩⟩,⟨_,hb.set (2+i*6+j) v,?_⟩,h.c1,h.c2⟩
 exact hc.EL (AEU ..) (λk hk=>mS cs _ j k v hj hk) (h6 cs (hc.t i hi) (by rw [hc.len];omega))
def mT (h:TT w s c O X) (hi:i<32) (m:Nat):TT (w.setCell ⟨s+2,2+i*6+1,none⟩ (.int .u64 (m:Int))) s c O (sx X i { X i with mask:=m }):=
 D2 h hi 1 (by omega) _ _ λ_ h6 hl=>RK h6 hl m
def RL (h:TT w s c O X) (hi:i<32) (j k:Nat) (hj:j<6) (hk:k<6) (v v2:Value) (t t2:Th) (h6:∀ cs,Dl cs (2+i*6) (X i)->2+i*6+5<cs.length->Dl (cs.set (2+i*6+j) v) (2+i*6) t) (g6:∀ cs,Dl cs (2+i*6) t->2+i*6+5<cs.length->Dl (cs.set (2+i*6+k) v2) (2+i*6) t2):TT ((w.setCell ⟨s+2,2+i*6+j,none⟩ v).setCell ⟨s+2,2+i*6+k,none⟩ v2) s c O (sx X i t2):=by
 have:=D2 (D2 h hi j hj v t h6) hi k hk v2 t2 (by rw [Fo];exact g6)
 rwa [Qc] at this
def YH (h:TT w s c O X) (hi:i<32) (t:Th):TT ((((((w.setCell ⟨s+2,2+i*6,none⟩ (.int .i64 t.prio)).setCell ⟨s+2,2+i*6+1,none⟩ (.int .u64 (t.mask:Int))).setCell ⟨s+2,2+i*6+2,none⟩ (.int .i64 t.cpu)).setCell ⟨s+2,2+i*6+3,none⟩ (.bool t.forced)).setCell ⟨s+2,2+i*6+4,none⟩ (.bool t.sleeps)).setCell ⟨s+2,2+i*6+5,none⟩ (.int .i64 t.timer)) s c O (sx X i t):=by
 have h0:=D2 h hi 0 (by omega) (.int .i64 t.prio) _ λ_ h6 hl=>dI h6 hl t.prio
 have h1:=D2 h0 hi 1 (by omega) (.int .u64 (t.mask:Int)) _ λ_ h6 hl=>RK h6 hl t.mask
 have h2:=D2 h1 hi 2 (by omega) (.int .i64 t.cpu) _ λ_ h6 hl=>Ub h6 hl t.cpu
 have h3:=D2 h2 hi 3 (by omega) (.bool t.forced) _ λ_ h6 hl=>MZ h6 hl t.forced
 have h4:=D2 h3 hi 4 (by omega) (.bool t.sleeps) _ λ_ h6 hl=>Im h6 hl t.sleeps
 have h5:=D2 h4 hi 5 (by omega) (.int .i64 t.timer) _ λ_ h6 hl=>Jc h6 hl t.timer
 simp only [Qc,Fo] at h5
 exact h5
def OP {w2:World} {O':Nat->Bool} (h:TT w s c O X) (f:Fr w.heap.size [s+1,s] w w2) (t2:∃ W,T w2 (s+1) s 32 W O'):TT w2 s c O' X:=by
 obtain ⟨cs,hb,hc⟩:=h.bk
 exact ⟨t2,⟨cs,hb.AA f hb.lt (by simp),hc⟩,h.c1,h.c2⟩
def OQ (f:Fr B [s+1,s] w w'):Fr B [s,s+1,s+2] w w':=f.mono (ADW _) λk _ hk e=>hk (by simp at e ⊢;omega)
def V5 (n:Int) (w:World) (h:TT w s c O X):
 Calls prog 141 #[.pointer (some ⟨s+2,0,none⟩),.int .i64 n] w λe w'=>e=.returned (.int .i64 (gE 32 O n))/\TT w' s c (gO 32 O n) (PJ O X n)/\Fr w.heap.size [s,s+1,s+2] w w':=by
 have C1:Hid (∀ _:Unit,_):=λ_=>DD n w h
 have HT:Hid (TT w s c O X):=h
 cases e:hs 32 O n with
 | false=>
  rw [e,AHh (by simp)] at C1
  rw [show gE 32 O n=4 by unfold gE;rw [e];rfl,show gO 32 O n=O by unfold gO;rw [e];rfl,show PJ O X n=X by unfold PJ;rw [e];rfl]
  clear h e
  go_enter func141,ntmps141
  go_wp2_with fail
  refine (C1.out ()).mono ?_
  rintro e w' ⟨rfl,rfl⟩
  go_wp2
  go_ret
  exact ⟨rfl,HT.out,Fr.refl _ _ _⟩
 | true=>
  rw [e,AHi rfl] at C1
  rw [show PJ O X n=sx X (n.toNat-1) zt by unfold PJ;rw [e];rfl]
  have hE:gE 32 O n=0:=by unfold gE;rw [e];rfl
  obtain ⟨i,hi,rfl,e2,_⟩:=DC e
  rw [e2] at C1 ⊢
  obtain ⟨a0,a1,a2,a3,a4,a5⟩:=h.DP hi
  have f0:=h.free (2+i*6)
  have f1:=h.free (2+i*6+1)
  have f2:=h.free (2+i*6+2)
  have f3:=h.free (2+i*6+3)
  have f4:=h.free (2+i*6+4)
  have f5:=h.free (2+i*6+5)
  have k0:=h.k0
  have G:Hid (TT _ s c O (sx X i zt)):=YH h hi zt
  have F:Hid (Fr w.heap.size [s,s+1,s+2] w _):=MY (g:=s+2) (o:=2+i*6) (Fr.refl w.heap.size [s,s+1,s+2] w) (Or.inr (by simp)) (.int .i64 zt.prio) (.int .u64 (zt.mask:Int)) (.int .i64 zt.cpu) (.bool zt.forced) (.bool zt.sleeps) (.int .i64 zt.timer)
  have C2:Hid (∀ w1:World,TT w1 s c O (sx X i zt)->Calls prog 190 #[.pointer (some ⟨s+1,0,none⟩),.int .i64 ((i:Int)+1)] w1 λe w'=>e=.returned (.int .i64 (gE 32 O ((i:Int)+1)))/\(∃ W',T w' (s+1) s 32 W' (gO 32 O ((i:Int)+1)))/\Fr w1.heap.size [s+1,s] w1 w'):=λw1 h1=>h1.sl.elim λW hw=>Ll ((i:Int)+1) w1 hw
  have FIN:Hid (∀ w1 w2:World,TT w1 s c O (sx X i zt)->Fr w.heap.size [s,s+1,s+2] w w1->(∃ W',T w2 (s+1) s 32 W' (gO 32 O ((i:Int)+1)))->Fr w1.heap.size [s+1,s] w1 w2->TT w2 s c (gO 32 O ((i:Int)+1)) (sx X i zt)/\Fr w.heap.size [s,s+1,s+2] w w2):=λw1 w2 h1 g1 t2 g2=>⟨OP h1 g2 t2,g1.trans (OQ (g2.less g1.size))⟩
  rw [hE] at C2 ⊢
  generalize gO 32 O ((i:Int)+1)=O2 at *
  clear h e e2 hE
  go_enter func141,ntmps141
  go_wp2_with fail
  refine (C1.out ()).mono ?_
  rintro e w' ⟨rfl,rfl⟩
  go_wp2_with fail
  refine (C2.out _ G.out).mono ?_
  rintro e w2 ⟨rfl,t2,g2⟩
  have R:=FIN.out _ _ G.out F.out t2 g2
  clear t2 g2
  go_wp2
  go_ret
  exact ⟨rfl,R.1,R.2⟩
def Ti (p:Int) (m:Nat) (w:World) (hm:m<18446744073709551616) (h:TT w s c O X) (ht:A9 w):
 Calls prog 134 #[.pointer (some ⟨s+2,0,none⟩),.int .i64 p,.int .u64 (m:Int)] w λe w'=>e=.returned (.tuple #[.int .i64 (Gl c O p m),.int .i64 (LB c O p m)])/\TT w' s c (YC c O p m) (RI c O X p m)/\Fr w.heap.size [s,s+1,s+2] w w':=by
 have HT:Hid (TT w s c O X):=h
 have C1:Hid (∀ _:Unit,_):=λ_=>PK m w hm h
 by_cases hb:PI c p m=true
 ·rw [show Gl c O p m=tN (ff 32 O) from AHi hb,show LB c O p m=tE (ff 32 O) from AHi hb,show YC c O p m=tO O (ff 32 O) from AHi hb,show RI c O X p m=tX X (nw p m) (ff 32 O) from AHi hb]
  unfold PI at hb
  rw [ADe] at hb
  obtain ⟨hp,hc⟩:=hb
  have hp:=of_decide_eq_true hp
  obtain ⟨p0,p1⟩:=hp
  rw [hc] at C1
  have C2:Hid (∀ _:Unit,_):=λ_=>h.sl.elim λW hw=>Ij w hw ht
  have k0:=h.k0
  rcases AB0 (O:=O) with ⟨e,_⟩ | ⟨i,e,hi,_⟩
  ·rw [e] at C2 ⊢
   rw [show tN none=0 from rfl,show tE none=5 from rfl,show tO O none=O from rfl] at C2
   rw [show tN none=0 from rfl,show tE none=5 from rfl,show tO O none=O from rfl,show tX X (nw p m) none=X from rfl]
   clear h ht hm hc e
   go_enter func134,ntmps134
   go_wp2_with fail
   refine (C1.out ()).mono ?_
   rintro e w' ⟨rfl,rfl⟩
   go_wp2_with fail
   refine (C2.out ()).mono ?_
   rintro e w2 ⟨rfl,t2,g2⟩
   have R:Hid (TT w2 s c O X/\Fr w'.heap.size [s,s+1,s+2] w' w2):=⟨OP HT.out g2 t2,OQ g2⟩
   clear t2 g2
   go_wp2
   go_ret2
   exact ⟨rfl,R.out⟩
  ·rw [e] at C2 ⊢
   rw [show tN (some i)=(i:Int)+1 from rfl,show tE (some i)=0 from rfl,show tO O (some i)=st O (i+1) true from rfl] at C2
   rw [show tN (some i)=(i:Int)+1 from rfl,show tE (some i)=0 from rfl,show tO O (some i)=st O (i+1) true from rfl,show tX X (nw p m) (some i)=sx X i (nw p m) from rfl]
   have hi2:(i:Int)<32:=by omega
   have HI:Hid (i<32):=hi
   generalize st O (i+1) true=O2 at *
   clear h ht hm hc e
   go_enter func134,ntmps134
   go_wp2_with fail
   refine (C1.out ()).mono ?_
   rintro e w' ⟨rfl,rfl⟩
   go_wp2_with fail
   refine (C2.out ()).mono ?_
   rintro e w2 ⟨rfl,t2,g2⟩
   have r1:=OP HT.out g2 t2
   have R2:Hid (Fr w'.heap.size [s,s+1,s+2] w' w2):=OQ g2
   obtain ⟨a0,a1,a2,a3,a4,a5⟩:=r1.DP HI.out
   have f0:=r1.free (2+i*6)
   have f1:=r1.free (2+i*6+1)
   have f2:=r1.free (2+i*6+2)
   have f3:=r1.free (2+i*6+3)
   have f4:=r1.free (2+i*6+4)
   have f5:=r1.free (2+i*6+5)
   have R1:Hid (TT w2 s c O2 X):=r1
   clear t2 g2 r1
   go_wp2
   go_ret2
   exact ⟨rfl,YH R1.out HI.out (nw p m),MY R2.out (Or.inr (by simp)) _ _ _ _ _ _⟩
 ·rw [show Gl c O p m=0 from AHh hb,show LB c O p m=2 from AHh hb,show YC c O p m=O from AHh hb,show RI c O X p m=X from AHh hb]
  by_cases h1:p<0
  ·clear h ht hm hb
   go_enter func134,ntmps134
   go_wp2
   go_ret2
   exact ⟨rfl,HT.out,Fr.refl _ _ _⟩
  ·by_cases h2:8<=p
   ·clear h ht hm hb
    go_enter func134,ntmps134
    go_wp2
    go_ret2
    exact ⟨rfl,HT.out,Fr.refl _ _ _⟩
   ·have hc:can c m=false:=by
     cases e:can c m with
     | false=>rfl
     | true=>exact absurd (by unfold PI;rw [e,AHj (by omega)];rfl) hb
    rw [hc] at C1
    clear h ht hm hb hc
    go_enter func134,ntmps134
    go_wp2_with fail
    refine (C1.out ()).mono ?_
    rintro e w' ⟨rfl,rfl⟩
    go_wp2
    go_ret2
    exact ⟨rfl,HT.out,Fr.refl _ _ _⟩
def GC (h:c<=64) (u:Int):tb (up (c:Int)) u=decide (0<=u/\u<c):=by
 by_cases e:0<=u/\u<64
 ·rw [C' _ _ e,JY]
  have:u.toNat<64:=by omega
  by_cases g:u<c
  ·rw [AHj (by omega),AHj (by omega)]
  ·rw [AHk (by omega),AHk (by omega)]
 ·rw [Di _ _ e,AHk (by omega)]
def YI (n:Int) (m:Nat) (w:World) (hm:m<18446744073709551616) (h:TT w s c O X):
 Calls prog 148 #[.pointer (some ⟨s+2,0,none⟩),.int .i64 n,.int .u64 (m:Int)] w λe w'=>e=.returned (.int .i64 (B8 c O n m))/\TT w' s c O (LC c O X n m)/\Fr w.heap.size [s,s+1,s+2] w w':=by
 have C1:Hid (∀ _:Unit,_):=λ_=>DD n w h
 have C2:Hid (∀ _:Unit,_):=λ_=>PK m w hm h
 have HT:Hid (TT w s c O X):=h
 cases e:hs 32 O n with
 | false=>
  rw [e,AHh (by simp)] at C1
  rw [show B8 c O n m=4 by unfold B8;rw [e];rfl,show LC c O X n m=X by unfold LC;rw [e];simp]
  clear h e hm
  go_enter func148,ntmps148
  go_wp2_with fail
  refine (C1.out ()).mono ?_
  rintro e w' ⟨rfl,rfl⟩
  go_wp2
  go_ret
  exact ⟨rfl,HT.out,Fr.refl _ _ _⟩
 | true=>
  rw [e,AHi rfl] at C1
  cases e3:can c m with
  | false=>
   rw [e3] at C2
   rw [show B8 c O n m=2 by unfold B8;rw [e,e3];rfl,show LC c O X n m=X by unfold LC;rw [e3];simp]
   clear h e hm e3
   go_enter func148,ntmps148
   go_wp2_with fail
   refine (C1.out ()).mono ?_
   rintro e w' ⟨rfl,rfl⟩
   go_wp2_with fail
   refine (C2.out ()).mono ?_
   rintro e w' ⟨rfl,rfl⟩
   go_wp2
   go_ret
   exact ⟨rfl,HT.out,Fr.refl _ _ _⟩
  | true=>
   rw [e3] at C2
   rw [show B8 c O n m=0 by unfold B8;rw [e,e3];rfl,show LC c O X n m=sx X (n.toNat-1) { X (n.toNat-1) with mask:=m } from AHi ⟨e,e3⟩]
   obtain ⟨i,hi,rfl,e2,_⟩:=DC e
   rw [e2] at C1 ⊢
   obtain ⟨a0,a1,a2,a3,a4,a5⟩:=h.DP hi
   have f1:=h.free (2+i*6+1)
   clear h e e2 e3 hm
   go_enter func148,ntmps148
   go_wp2_with fail
   refine (C1.out ()).mono ?_
   rintro e w' ⟨rfl,rfl⟩
   go_wp2_with fail
   refine (C2.out ()).mono ?_
   rintro e w' ⟨rfl,rfl⟩
   go_wp2
   go_ret
   exact ⟨rfl,mT HT.out hi m,(Fr.refl _ _ _).setCell (Or.inr (by simp)) _⟩
def Tj (n u:Int) (f:Bool) (w:World) (h:TT w s c O X):
 Calls prog 216 #[.pointer (some ⟨s+2,0,none⟩),.int .i64 n,.int .i64 u,.bool f] w λe w'=>e=.returned (.int .i64 (Dk c O n u))/\TT w' s c O (GA c O X n u f)/\Fr w.heap.size [s,s+1,s+2] w w':=by
 have C1:Hid (∀ _:Unit,_):=λ_=>DD n w h
 have C2:Hid (∀ _:Unit,_):=λ_=>As (up (c:Int)) u w (Dy _)
 rw [GC h.c2] at C2
 have HT:Hid (TT w s c O X):=h
 have k1:=h.k1
 cases e:hs 32 O n with
 | false=>
  rw [e,AHh (by simp)] at C1
  rw [show Dk c O n u=4 by unfold Dk;rw [e];rfl,show GA c O X n u f=X by unfold GA;rw [e];simp]
  clear h e k1
  go_enter func216,ntmps216
  go_wp2_with fail
  refine (C1.out ()).mono ?_
  rintro e w' ⟨rfl,rfl⟩
  go_wp2
  go_ret
  exact ⟨rfl,HT.out,Fr.refl _ _ _⟩
 | true=>
  rw [e,AHi rfl] at C1
  by_cases e3:0<=u/\u<c
  ·rw [AHj e3] at C2
   rw [show Dk c O n u=0 by unfold Dk;rw [e,AHi rfl,AHi e3],show GA c O X n u f=sx X (n.toNat-1) { X (n.toNat-1) with cpu:=u,forced:=f } from AHi ⟨e,e3⟩]
   obtain ⟨i,hi,rfl,e2,_⟩:=DC e
   rw [e2] at C1 ⊢
   obtain ⟨a0,a1,a2,a3,a4,a5⟩:=h.DP hi
   have f2:=h.free (2+i*6+2)
   have f3:=h.free (2+i*6+3)
   generalize up (c:Int)=U at *
   clear h e e2 e3
   go_enter func216,ntmps216
   go_wp2_with fail
   refine (C1.out ()).mono ?_
   rintro e w' ⟨rfl,rfl⟩
   go_wp2_with fail
   refine (C2.out ()).mono ?_
   rintro e w' ⟨rfl,rfl⟩
   go_wp2
   go_ret
   exact ⟨rfl,RL HT.out hi 2 3 (by omega) (by omega) _ _ _ _ (λ_ h6 hl=>Ub h6 hl u) (λ_ h6 hl=>MZ h6 hl f),((Fr.refl _ _ _).setCell (Or.inr (by simp)) _).setCell (Or.inr (by simp)) _⟩
  ·rw [AHk e3] at C2
   rw [show Dk c O n u=3 by unfold Dk;rw [e,AHi rfl,AHh e3],show GA c O X n u f=X from AHh λg=>e3 g.2]
   generalize up (c:Int)=U at *
   clear h e e3
   go_enter func216,ntmps216
   go_wp2_with fail
   refine (C1.out ()).mono ?_
   rintro e w' ⟨rfl,rfl⟩
   go_wp2_with fail
   refine (C2.out ()).mono ?_
   rintro e w' ⟨rfl,rfl⟩
   go_wp2
   go_ret
   exact ⟨rfl,HT.out,Fr.refl _ _ _⟩
def Tk (n t:Int) (w:World) (h:TT w s c O X):
 Calls prog 145 #[.pointer (some ⟨s+2,0,none⟩),.int .i64 n,.int .i64 t] w λe w'=>e=.returned (.int .i64 (MW O X n))/\TT w' s c O (Jb O X n t)/\Fr w.heap.size [s,s+1,s+2] w w':=by
 have C1:Hid (∀ _:Unit,_):=λ_=>DD n w h
 have HT:Hid (TT w s c O X):=h
 cases e:hs 32 O n with
 | false=>
  rw [e,AHh (by simp)] at C1
  rw [show MW O X n=4 by unfold MW;rw [e];rfl,show Jb O X n t=X by unfold Jb;rw [e];simp]
  clear h e
  go_enter func145,ntmps145
  go_wp2_with fail
  refine (C1.out ()).mono ?_
  rintro e w' ⟨rfl,rfl⟩
  go_wp2
  go_ret
  exact ⟨rfl,HT.out,Fr.refl _ _ _⟩
 | true=>
  rw [e,AHi rfl] at C1
  cases e3:(X (n.toNat-1)).sleeps with
  | true=>
   rw [show MW O X n=6 by unfold MW;rw [e,e3];rfl,show Jb O X n t=X from AHh (by rw [e3];simp)]
   obtain ⟨i,hi,rfl,e2,_⟩:=DC e
   rw [e2] at C1 e3
   obtain ⟨a0,a1,a2,a3,a4,a5⟩:=h.DP hi
   rw [e3] at a4
   clear h e e2 e3
   go_enter func145,ntmps145
   go_wp2_with fail
   refine (C1.out ()).mono ?_
   rintro e w' ⟨rfl,rfl⟩
   go_wp2
   go_ret
   exact ⟨rfl,HT.out,Fr.refl _ _ _⟩
  | false=>
   rw [show MW O X n=0 by unfold MW;rw [e,e3];rfl,show Jb O X n t=sx X (n.toNat-1) { X (n.toNat-1) with sleeps:=true,timer:=t } from AHi ⟨e,e3⟩]
   obtain ⟨i,hi,rfl,e2,_⟩:=DC e
   rw [e2] at C1 e3 ⊢
   obtain ⟨a0,a1,a2,a3,a4,a5⟩:=h.DP hi
   rw [e3] at a4
   have f4:=h.free (2+i*6+4)
   have f5:=h.free (2+i*6+5)
   clear h e e2 e3
   go_enter func145,ntmps145
   go_wp2_with fail
   refine (C1.out ()).mono ?_
   rintro e w' ⟨rfl,rfl⟩
   go_wp2
   go_ret
   exact ⟨rfl,RL HT.out hi 4 5 (by omega) (by omega) _ _ _ _ (λ_ h6 hl=>Im h6 hl true) (λ_ h6 hl=>Jc h6 hl t),((Fr.refl _ _ _).setCell (Or.inr (by simp)) _).setCell (Or.inr (by simp)) _⟩
def V6 (n:Int) (w:World) (h:TT w s c O X):
 Calls prog 209 #[.pointer (some ⟨s+2,0,none⟩),.int .i64 n] w λe w'=>e=.returned (.tuple #[.int .i64 (EK O X n),.int .i64 (Ax O X n)])/\TT w' s c O (MX O X n)/\Fr w.heap.size [s,s+1,s+2] w w':=by
 have C1:Hid (∀ _:Unit,_):=λ_=>DD n w h
 have HT:Hid (TT w s c O X):=h
 cases e:hs 32 O n with
 | false=>
  rw [e,AHh (by simp)] at C1
  rw [show Ax O X n=4 by unfold Ax;rw [e];rfl,show EK O X n=0 by unfold EK;rw [e];simp,show MX O X n=X by unfold MX;rw [e];simp]
  clear h e
  go_enter func209,ntmps209
  go_wp2_with fail
  refine (C1.out ()).mono ?_
  rintro e w' ⟨rfl,rfl⟩
  go_wp2
  go_ret2
  exact ⟨rfl,HT.out,Fr.refl _ _ _⟩
 | true=>
  rw [e,AHi rfl] at C1
  cases e3:(X (n.toNat-1)).sleeps with
  | false=>
   rw [show Ax O X n=6 by unfold Ax;rw [e,e3];rfl,show EK O X n=0 from AHh (by rw [e3];simp),show MX O X n=X from AHh (by rw [e3];simp)]
   obtain ⟨i,hi,rfl,e2,_⟩:=DC e
   rw [e2] at C1 e3
   obtain ⟨a0,a1,a2,a3,a4,a5⟩:=h.DP hi
   rw [e3] at a4
   clear h e e2 e3
   go_enter func209,ntmps209
   go_wp2_with fail
   refine (C1.out ()).mono ?_
   rintro e w' ⟨rfl,rfl⟩
   go_wp2
   go_ret2
   exact ⟨rfl,HT.out,Fr.refl _ _ _⟩
  | true=>
   rw [show Ax O X n=0 by unfold Ax;rw [e,e3];rfl,show EK O X n=(X (n.toNat-1)).timer from AHi ⟨e,e3⟩,show MX O X n=sx X (n.toNat-1) { X (n.toNat-1) with sleeps:=false,timer:=0 } from AHi ⟨e,e3⟩]
   obtain ⟨i,hi,rfl,e2,_⟩:=DC e
   rw [e2] at C1 e3 ⊢
   obtain ⟨a0,a1,a2,a3,a4,a5⟩:=h.DP hi
   rw [e3] at a4
   have f4:=h.free (2+i*6+4)
   have f5:=h.free (2+i*6+5)
   clear h e e2 e3
   go_enter func209,ntmps209
   go_wp2_with fail
   refine (C1.out ()).mono ?_
   rintro e w' ⟨rfl,rfl⟩
   go_wp2
   go_ret2
   exact ⟨rfl,RL HT.out hi 4 5 (by omega) (by omega) _ _ _ _ (λ_ h6 hl=>Im h6 hl false) (λ_ h6 hl=>Jc h6 hl 0),((Fr.refl _ _ _).setCell (Or.inr (by simp)) _).setCell (Or.inr (by simp)) _⟩
end Go.Proofs.YtdlhlfpigcgapaaGreatDoor.Thr

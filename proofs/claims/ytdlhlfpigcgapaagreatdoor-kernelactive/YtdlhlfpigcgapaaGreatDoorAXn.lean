import Derived.Test.YtdlhlfpigcgapaaGreatDoorAZal
import Derived.Test.YtdlhlfpigcgapaaGreatDoorAXb
import Derived.Deep.MidRow
set_option maxRecDepth 100000
set_option maxHeartbeats 16000000
set_option linter.unusedVariables false
set_option linter.unusedSimpArgs false
set_option linter.defProp false
namespace Go.Proofs.YtdlhlfpigcgapaaGreatDoor.Nm
open Go.Proofs.Tryz
open Mm
variable {c:Nat} {n:Int}
def sp (P:Nat->Int) (i:Nat) (u:Int):Nat->Int:=λj=>if j=i then u else P j
def Fu (P:Nat->Int) (i:Nat) (u:Int):sp P i u i=u:=AHi rfl
def Eb (P:Nat->Int) {i j:Nat} (h:j≠i) (u:Int):sp P i u j=P j:=AHh h
def kP (c:Nat) (P:Nat->Int):Prop:=∀ i,i<16->-1<=P i/\P i<c
def oJ (c:Nat) (h:1<=c):kP c λ_=>-1:=λ_ _=>⟨by show (-1:Int)<=-1;omega,by show (-1:Int)<c;omega⟩
def wK {P:Nat->Int} (h:kP c P) (i:Nat) {u:Int} (h1:-1<=u) (h2:u<c):kP c (sp P i u):=λj hj=>by
 by_cases e:j=i
 ·subst e
  rw [Fu]
  exact ⟨h1,h2⟩
 ·rw [Eb P e]
  exact h j hj
def is (n:Int):Bool:=decide (0<=n/\n<16)
def DI (h:is n=true):∃ i:Nat,i<16/\n=(i:Int)/\n.toNat=i:=by
 have:=of_decide_eq_true h
 exact ⟨n.toNat,by omega,by omega,rfl⟩
def Do (h:is n=false):n<0\/16<=n:=by
 have:=of_decide_eq_false h
 omega
def th (P:Nat->Int) (i:Nat):Bool:=decide (0<=P i)
def cp (P:Nat->Int) (i:Nat):Int:=if 0<=P i then P i else 0
def NC (c:Nat) (u:Int):Bool:=decide (0<=u/\u<c)
def Gu (c:Nat) (n u:Int):Int:=if is n=true then (if NC c u=true then 0 else 3) else 3
def H8 (P:Nat->Int) (n:Int):Int:=if is n=true then (if th P n.toNat=true then 0 else 4) else 3
def FW (P:Nat->Int) (n:Int):Int:=if is n=true then cp P n.toNat else 0
def Rs (P:Nat->Int) (n:Int):Bool:=is n&&th P n.toNat
def A7 (e:Int) (P:Nat->Int) (n u:Int):Nat->Int:=if e=0 then sp P n.toNat u else P
def Ci (P:Nat->Int) (n u:Int):A7 0 P n u=sp P n.toNat u:=AHi rfl
def BN {e:Int} (h:e≠0) (P:Nat->Int) (n u:Int):A7 e P n u=P:=AHh h
def on (P:Nat->Int) (u:Int):Nat->Bool:=λi=>decide (0<=P i)&&(P i==u)
def Ej (P:Nat->Int) (u:Int) (k:Nat) (h:th P k=false):on P u k=false:=by
 unfold on
 rw [show decide (0<=P k)=false from h]
 rfl
def Bf (P:Nat->Int) (u:Int) (k:Nat) (h:th P k=true):on P u k=(cp P k==u):=by
 have:=of_decide_eq_true h
 unfold on
 rw [show decide (0<=P k)=true from h,show cp P k=P k from AHi this]
 rfl
def ABe (P:Nat->Int) (u:Int) (k:Nat) (h:0<=u):on P u k=(P k==u):=by
 unfold on
 by_cases e:P k=u
 ·rw [AHj (by omega)]
  rfl
 ·have:(P k==u)=false:=by simpa using e
  rw [this,AGB]
def GC (h:c<=64) (u:Int):tb (up (c:Int)) u=NC c u:=by
 unfold NC
 by_cases e:0<=u/\u<64
 ·rw [C' _ _ e,JY]
  have:u.toNat<64:=by omega
  by_cases g:u<c
  ·rw [AHj (by omega),AHj (by omega)]
  ·rw [AHk (by omega),AHk (by omega)]
 ·rw [Di _ _ e,AHk (by omega)]
end Go.Proofs.YtdlhlfpigcgapaaGreatDoor.Nm
namespace Go.Proofs.YtdlhlfpigcgapaaGreatDoor.Rou
open Go.Proofs.Tryz
open Go.ChangeShapes Go.WideShapes Go.ChangeAt Go.RowKit
open Mm Nm
variable {P:Nat->Int} {w:World} {c i s:Nat}
structure Rcs (cs:List Value) (c:Nat) (P:Nat->Int):Prop where
 len:cs.length=33
 m:cs[0]?=some (.int .u64 ((up (c:Int):Nat):Int))
 t:∀ i,i<16->cs[1+i*2]?=some (.bool (th P i))/\cs[1+i*2+1]?=some (.int .i64 (cp P i))
structure RT (w:World) (s c:Nat) (P:Nat->Int):Prop where
 bk:∃ cs,AB w s cs 164/\Rcs cs c P
 c1:1<=c
 c2:c<=64
 ok:kP c P
def RT.lt {w:World} {s c:Nat} {P:Nat->Int} (h:RT w s c P):s<w.heap.size:=by
 obtain ⟨cs,hb,_⟩:=h.bk
 exact hb.lt
def RT.AA {B:Nat} {S:List Nat} {w w':World} {s c:Nat} {P:Nat->Int} (h:RT w s c P) (f:Fr B S w w') (hB:s<B) (hS:s∉S):RT w' s c P:=by
 obtain ⟨cs,hb,hc⟩:=h.bk
 exact ⟨⟨cs,hb.AA f hB hS,hc⟩,h.c1,h.c2,h.ok⟩
def RT.k0 (h:RT w s c P):w.cell? ⟨s,0,none⟩=some (.int .u64 ((up (c:Int):Nat):Int)):=by
 obtain ⟨cs,hb,hc⟩:=h.bk
 rw [hb.cell,hc.m]
def RT.free {w:World} {s c:Nat} {P:Nat->Int} (h:RT w s c P) (k:Nat):w.frozen? ⟨s,k,none⟩=false:=by
 obtain ⟨cs,hb,hc⟩:=h.bk
 exact hb.free k
def RT.two (h:RT w s c P) (hi:i<16):w.cell? ⟨s,1+i*2,none⟩=some (.bool (th P i))/\w.cell? ⟨s,1+i*2+1,none⟩=some (.int .i64 (cp P i)):=by
 obtain ⟨cs,hb,hc⟩:=h.bk
 obtain ⟨a0,a1⟩:=hc.t i hi
 exact ⟨(hb.cell _).trans a0,(hb.cell _).trans a1⟩
def ND (h:RT w s c P) (hi:i<16) (u:Int) (h1:-1<=u) (h2:u<c) (b:Bool) (v:Int) (hb:b=decide (0<=u)) (hv:v=if 0<=u then u else 0):
 RT ((w.setCell ⟨s,1+i*2,none⟩ (.bool b)).setCell ⟨s,1+i*2+1,none⟩ (.int .i64 v)) s c (sp P i u):=by
 obtain ⟨cs,hk,hc⟩:=h.bk
 have hl:=hc.len
 refine ⟨⟨_,(hk.set (1+i*2) (.bool b)).set (1+i*2+1) (.int .i64 v),by simp [hl],?_,λj hj=>?_⟩,h.c1,h.c2,wK h.ok i h1 h2⟩
 ·rw [AD6,AHh (by omega),AD6,AHh (by omega)]
  exact hc.m
 ·obtain ⟨a0,a1⟩:=hc.t j hj
  by_cases e:j=i
  ·subst e
   refine ⟨?_,?_⟩
   ·rw [AD6,AHh (by omega),AD6,AHi rfl,AHi (by omega),hb]
    unfold th
    rw [Fu]
   ·rw [AD6,AHi rfl,AHi (by simp;omega),hv]
    unfold cp
    rw [Fu]
  ·refine ⟨?_,?_⟩
   ·rw [AD6,AHh (by omega),AD6,AHh (by omega),a0]
    unfold th
    rw [Eb P e]
   ·rw [AD6,AHh (by omega),AD6,AHh (by omega),a1]
    unfold cp
    rw [Eb P e]
def ZA {B:Nat} {S:List Nat} {a:World} {g o:Nat} (h:Fr B S a w) (hp:B<=g\/g∈S) (v0 v1:Value):Fr B S a ((w.setCell ⟨g,o,none⟩ v0).setCell ⟨g,o+1,none⟩ v1):=
 (h.setCell (p:=⟨g,o,none⟩) hp v0).setCell (p:=⟨g,o+1,none⟩) hp v1
def U8 (L:List Value) (hL:L.length=2):∀ n i j,i<n->j<2->(List.replicate n L).flatten[i*2+j]?=L[j]?
 | 0,i,j,h,_=>by omega
 | n+1,i,j,h,hj=>by
  rw [AEw,List.flatten_cons]
  cases i with
  | zero=>rw [ADl (by omega),AEy,ADs]
  | succ i=>rw [ADj (by omega),show (i+1)*2+j-L.length=i*2+j by omega];exact U8 L hL n i j (by omega) hj
def z2:List Value:=[.bool false,.int .i64 0]
def rz (c:Nat):List Value:=.int .u64 ((up (c:Int):Nat):Int)::(List.replicate 16 z2).flatten
def oK (c:Nat):Rcs (rz c) c λ_=>-1:=by
 refine ⟨by rfl,rfl,λi hi=>?_⟩
 have g:∀ j,j<2->(rz c)[1+i*2+j]?=z2[j]?:=λj hj=>by
  unfold rz
  rw [show 1+i*2+j=i*2+j+1 by omega,ADf]
  exact U8 z2 rfl 16 i j hi hj
 exact ⟨g 0 (by omega),g 1 (by omega)⟩
def ZB (c:Nat) (w:World) (h1:(1:Int)<=c) (h2:(c:Int)<=64):
 Calls prog 30 #[.int .i64 (c:Int)] w λe w'=>e=.returned (.tuple #[.pointer (some ⟨w.heap.size,0,none⟩),.int .i64 0])/\RT w' w.heap.size c (λ_=>-1)/\Below w.heap.size w w'/\w'.heap.size=w.heap.size+1:=by
 have C2:Hid (∀ w,_):=λw=>Dj (c:Int) w
 go_enter func30,ntmps30
 go_wp2_with fail
 refine (C2.out _).mono ?_
 rintro e w2 ⟨rfl,rfl⟩
 go_wp2
 go_ret2
 exact ⟨rfl,⟨⟨_,AB.new w2 (rz c) _,oK c⟩,by omega,by omega,oJ c (by omega)⟩,(Below.refl _ _).alloc (ADW _) _,by simp⟩
def L8 (w:World) (hi:(i:Int)<16):
 Calls prog 280 #[.pointer (some ⟨s,0,none⟩),.int .i64 (i:Int)] w λe w'=>e=.returned (.tuple #[.pointer (some ⟨s,1+i*2,none⟩),.int .i64 0])/\w'=w:=by
 go_enter func280,ntmps280
 go_wp2
 go_ret2
 exact ⟨rfl,rfl⟩
def Og (n:Int) (w:World) (h:n<0\/16<=n):
 Calls prog 280 #[.pointer (some ⟨s,0,none⟩),.int .i64 n] w λe w'=>e=.returned (.tuple #[.pointer none,.int .i64 3])/\w'=w:=by
 rcases h with h | h
 ·go_enter func280,ntmps280
  go_wp2
  go_ret2
  exact ⟨rfl,rfl⟩
 ·have h2:(0:Int)<=n:=by omega
  go_enter func280,ntmps280
  go_wp2
  go_ret2
  exact ⟨rfl,rfl⟩
def ZC (n u:Int) (w:World) (h:RT w s c P):
 Calls prog 279 #[.pointer (some ⟨s,0,none⟩),.int .i64 n,.int .i64 u] w λe w'=>e=.returned (.int .i64 (Gu c n u))/\RT w' s c (A7 (Gu c n u) P n u)/\Fr w.heap.size [s] w w':=by
 have C2:Hid (∀ _:Unit,_):=λ_=>As (up (c:Int)) u w (Dy _)
 rw [GC h.c2] at C2
 have HT:Hid (RT w s c P):=h
 have k0:=h.k0
 cases e:is n with
 | false=>
  have C1:Hid (∀ w,_):=λw=>Og (s:=s) n w (Do e)
  rw [show Gu c n u=3 by unfold Gu;rw [e];rfl,BN (by decide)]
  clear h e
  go_enter func279,ntmps279
  go_wp2_with fail
  refine (C1.out _).mono ?_
  rintro e w' ⟨rfl,rfl⟩
  go_wp2
  go_ret
  exact ⟨rfl,HT.out,Fr.refl _ _ _⟩
 | true=>
  obtain ⟨i,hi,rfl,e2⟩:=DI e
  have hi2:(i:Int)<16:=by omega
  have C1:Hid (∀ w,_):=λw=>L8 (s:=s) w hi2
  cases e3:NC c u with
  | false=>
   rw [e3] at C2
   rw [show Gu c (i:Int) u=3 by unfold Gu;rw [e,e3];rfl,BN (by decide)]
   generalize up (c:Int)=U at *
   clear h e e2 e3
   go_enter func279,ntmps279
   go_wp2_with fail
   refine (C1.out _).mono ?_
   rintro e w' ⟨rfl,rfl⟩
   go_wp2_with fail
   refine (C2.out ()).mono ?_
   rintro e w' ⟨rfl,rfl⟩
   go_wp2
   go_ret
   exact ⟨rfl,HT.out,Fr.refl _ _ _⟩
  | true=>
   rw [e3] at C2
   rw [show Gu c (i:Int) u=0 by unfold Gu;rw [e,e3];rfl,Ci,e2]
   obtain ⟨u0,u1⟩:=of_decide_eq_true e3
   have HU:Hid (-1<=u/\u<c/\true=decide (0<=u)/\u=if 0<=u then u else 0):=⟨by omega,u1,(AHj u0).symm,(AHi u0).symm⟩
   have HI:Hid (i<16):=hi
   obtain ⟨a0,a1⟩:=h.two hi
   have f0:=h.free (1+i*2)
   have f1:=h.free (1+i*2+1)
   generalize up (c:Int)=U at *
   clear h e e2 e3 hi u0 u1
   go_enter func279,ntmps279
   go_wp2_with fail
   refine (C1.out _).mono ?_
   rintro e w' ⟨rfl,rfl⟩
   go_wp2_with fail
   refine (C2.out ()).mono ?_
   rintro e w' ⟨rfl,rfl⟩
   go_wp2
   go_ret
   exact ⟨rfl,ND HT.out HI.out u HU.out.1 HU.out.2.1 true u HU.out.2.2.1 HU.out.2.2.2,ZA (Fr.refl _ _ _) (Or.inr (by simp)) _ _⟩
def ZD (n:Int) (w:World) (h:RT w s c P):
 Calls prog 224 #[.pointer (some ⟨s,0,none⟩),.int .i64 n] w λe w'=>e=.returned (.int .i64 (H8 P n))/\RT w' s c (A7 (H8 P n) P n (-1))/\Fr w.heap.size [s] w w':=by
 have HT:Hid (RT w s c P):=h
 cases e:is n with
 | false=>
  have C1:Hid (∀ w,_):=λw=>Og (s:=s) n w (Do e)
  rw [show H8 P n=3 by unfold H8;rw [e];rfl,BN (by decide)]
  clear h e
  go_enter func224,ntmps224
  go_wp2_with fail
  refine (C1.out _).mono ?_
  rintro e w' ⟨rfl,rfl⟩
  go_wp2
  go_ret
  exact ⟨rfl,HT.out,Fr.refl _ _ _⟩
 | true=>
  obtain ⟨i,hi,rfl,e2⟩:=DI e
  have hi2:(i:Int)<16:=by omega
  have C1:Hid (∀ w,_):=λw=>L8 (s:=s) w hi2
  obtain ⟨a0,a1⟩:=h.two hi
  cases e3:th P i with
  | false=>
   rw [e3] at a0
   rw [show H8 P (i:Int)=4 by unfold H8;rw [e,e2,e3];rfl,BN (by decide)]
   clear h e e2 e3
   go_enter func224,ntmps224
   go_wp2_with fail
   refine (C1.out _).mono ?_
   rintro e w' ⟨rfl,rfl⟩
   go_wp2
   go_ret
   exact ⟨rfl,HT.out,Fr.refl _ _ _⟩
  | true=>
   rw [e3] at a0
   rw [show H8 P (i:Int)=0 by unfold H8;rw [e,e2,e3];rfl,Ci,e2]
   have HI:Hid (i<16):=hi
   have HC:Hid ((-1:Int)<c):=by unfold Hid;omega
   have f0:=h.free (1+i*2)
   have f1:=h.free (1+i*2+1)
   clear h e e2 e3 hi
   go_enter func224,ntmps224
   go_wp2_with fail
   refine (C1.out _).mono ?_
   rintro e w' ⟨rfl,rfl⟩
   go_wp2
   go_ret
   exact ⟨rfl,ND HT.out HI.out (-1) (by omega) HC.out false 0 rfl rfl,ZA (Fr.refl _ _ _) (Or.inr (by simp)) _ _⟩
def eW (n:Int) (w:World) (h:RT w s c P):
 Calls prog 281 #[.pointer (some ⟨s,0,none⟩),.int .i64 n] w λe w'=>e=.returned (.tuple #[.int .i64 (FW P n),.bool (Rs P n)])/\Sm w' w:=by
 cases e:is n with
 | false=>
  have C1:Hid (∀ w,_):=λw=>Og (s:=s) n w (Do e)
  rw [show FW P n=0 by unfold FW;rw [e];rfl,show Rs P n=false by unfold Rs;rw [e];rfl]
  clear h e
  go_enter func281,ntmps281
  go_wp2_with fail
  refine (C1.out _).mono ?_
  rintro e w' ⟨rfl,rfl⟩
  go_wp2
  go_ret2
  exact ⟨rfl,rfl,rfl,rfl,rfl⟩
 | true=>
  obtain ⟨i,hi,rfl,e2⟩:=DI e
  have hi2:(i:Int)<16:=by omega
  have C1:Hid (∀ w,_):=λw=>L8 (s:=s) w hi2
  obtain ⟨a0,a1⟩:=h.two hi
  rw [show FW P (i:Int)=cp P i by unfold FW;rw [e,e2];rfl,show Rs P (i:Int)=th P i by unfold Rs;rw [e,e2];rfl]
  generalize cp P i=v at *
  generalize th P i=b at *
  clear h e e2
  go_enter func281,ntmps281
  go_wp2_with fail
  refine (C1.out _).mono ?_
  rintro e w' ⟨rfl,rfl⟩
  go_wp2
  go_quiet (fail)
  go_wp2
  go_ret2
  exact ⟨rfl,rfl,rfl,rfl,rfl⟩
def q2 (P:Nat->Int) (i:Nat):List Value:=[.bool (th P i),.int .i64 (cp P i)]
def Hc (P:Nat->Int):List Value:=(List.range 16).flatMap (q2 P)
def Oh (f:Nat->List Value) (hf:∀ i,(f i).length=2) (n:Nat):((List.range n).flatMap f).length=n*2:=by
 induction n with
 | zero=>rfl
 | succ n ih=>rw [AEK,AES,ADa,ih];simp [hf];omega
def ZE (f:Nat->List Value) (hf:∀ i,(f i).length=2):∀ n i j,i<n->j<2->((List.range n).flatMap f)[i*2+j]?=(f i)[j]?
 | 0,i,j,h,_=>by omega
 | n+1,i,j,h,hj=>by
  have hl:=Oh f hf
  rw [AEK,AES]
  by_cases e:i<n
  ·rw [ADl (by rw [hl];omega)]
   exact ZE f hf n i j e hj
  ·obtain rfl:i=n:=by omega
   rw [ADj (by rw [hl];omega),hl,show i*2+j-i*2=j by omega]
   simp
def RT.range {w:World} {s c:Nat} {P:Nat->Int} (h:RT w s c P):w.rangeAt s 1 (Hc P):=by
 intro j v hv
 have hj:j<32:=by
  have:=(ADc.1 hv).1
  unfold Hc at this
  rw [Oh _ (λ_=>rfl)] at this
  exact this
 obtain ⟨a0,a1⟩:=h.two (i:=j / 2) (by omega)
 have e:j=j / 2*2+j % 2:=by omega
 have hl:=ZE (q2 P) (λ_=>rfl) 16 (j / 2) (j % 2) (by omega) (by omega)
 rw [<- e] at hl
 rw [show Hc P=(List.range 16).flatMap (q2 P) from rfl,hl] at hv
 rw [<- hv]
 generalize hr:j % 2=r at *
 generalize j / 2=i at *
 obtain rfl | rfl:r=0\/r=1:=by omega
 ·rw [show 1+j=1+i*2 by omega];exact a0
 ·rw [show 1+j=1+i*2+1 by omega];exact a1
def eX (P:Nat->Int) (k:Nat) (h:k<16) (w:World):(Instr.index 162 (.agg (Hc P).toArray) (.int .i64 (k:Int))).run prog w=.ok (.agg #[.bool (th P k),.int .i64 (cp P k)]) w:=by
 obtain rfl | rfl | rfl | rfl | rfl | rfl | rfl | rfl | rfl | rfl | rfl | rfl | rfl | rfl | rfl | rfl:k=0\/k=1\/k=2\/k=3\/k=4\/k=5\/k=6\/k=7\/k=8\/k=9\/k=10\/k=11\/k=12\/k=13\/k=14\/k=15:=by omega
 all_goals rfl
def ZF (P:Nat->Int):(prog.info? 162).map (·.size)=some (Hc P).length:=by
 rw [show (Hc P).length=32 by unfold Hc;rw [Oh _ (λ_=>rfl)]]
 kernel_rfl
def Iz {wr:World} {v:Value} {p:Nat->Bool} {k:Nat} (g:CJ w wr v p k) (o:Obj):CJ w (wr.alloc o) v p k:=⟨g.own.alloc _,g.bel.alloc g.bel.size _⟩
def eY (u:Int) (w:World) (h:RT w s c P):
 Calls prog 60 #[.pointer (some ⟨s,0,none⟩),.int .i64 u] w λe w'=>∃ v,e=.returned v/\CJ w w' v (on P u) 16:=by
 obtain ⟨i0,hi,hz0,hz1,hz2⟩:=info_parts Tryz.Dw
 have HR:Hid (w.rangeAt s 1 (Hc P)):=h.range
 have HN:Hid ((prog.info? 162).map (·.size)=some (Hc P).length):=ZF P
 have HI:Hid (∀ k:Nat,(k:Int)<16->∀ w1:World,_):=λk hk w1=>eX P k (by omega) w1
 generalize Hc P=Q at *
 clear h
 go_enter func60,ntmps60
 go_wp2_with (guard_target =~ wpList _ _ _ (Oper.mk (some 13) _ _ _ _ _::_) _ _;refine wpList_load_mid rfl 162 (.tmp 12) rfl s 1 rfl Q _ HR.out underlying162 rfl HN.out ?_)
 go_loopw [5,14] (λv i wr=>∃ k:Nat,(k:Int)<=16/\CJ w wr v (on P u) k/\i=.int .i64 (k:Int)) (λ_ i _=>16-(intOf i).toNat)
 case atStart=>exact ⟨0,by omega,O9 w _,rfl⟩
 case round=>
  obtain ⟨k,hk,g,rfl⟩:=hrel
  by_cases e:(k:Int)<16
  ·have hx:=HI.out k e wr
   cases q:th P k with
   | false=>
    rw [q] at hx
    have G2:=Iz (Ii g (Ej P u k q)) (.cells #[.bool false,.int .i64 (cp P k)] 161)
    generalize cp P k=v1 at *
    clear g q
    go_wp2
    go_roundw
    case rel=>exact ⟨k+1,by omega,G2,by go_num⟩
    case measure=>simp [intOf];omega
   | true=>
    rw [q] at hx
    have G1:=Iz g (.cells #[.bool true,.int .i64 (cp P k)] 161)
    have oy:=Bf P u k q
    have hsz:=g.bel.size
    have hgl:=Gj (on P u) k
    generalize cp P k=v1 at *
    by_cases q2:v1=u
    ·have e3:(v1==u)=true:=by simpa using q2
     have HQ:Hid (on P u k=true):=by unfold Hid;rw [oy,e3]
     clear g q oy q2
     go_wp2_with (at_builtin;refine wpList_append_own _ rfl _ _ 122 rfl w.heap.size 3 i0 (.int .i64 0) 1 8 underlying122 hi hz0 hz1 hz2 rfl (by decide) _ _ _ rfl (G1.own.alloc _) ⟨_,0,none⟩ 1 1 [.int .i64 (k:Int)] rfl rfl ?c1 ?c2 ?c3 ?c4 ?c5 ?_)
     case c1=>
      intro j u hj
      match j,hj with
      | 0,hj=>
       simp at hj
       subst hj
       have:=(AB.new (wr.alloc (.cells #[.bool true,.int .i64 v1] 161)) [.int .i64 (k:Int)] 3).cell 0
       rw [show (wr.alloc (.cells #[.bool true,.int .i64 v1] 161)).heap.size=wr.heap.size+1 by simp] at this
       exact this
     case c2=>first | rfl | (intro u hu;simp at hu;subst hu;rfl)
     case c3=>unfold maxLen;omega
     case c4=>omega
     case c5=>first | omega | (simp;omega)
     intro v' w2 hown' hgrow _
     have G3:=Lk G1 HQ.out hown' hgrow
     clear hown' hgrow
     go_wp2
     go_roundw
     case rel=>exact ⟨k+1,by omega,G3,by go_num⟩
     case measure=>simp [intOf];omega
    ·have e3:(v1==u)=false:=by simpa using q2
     have G2:=Iz (Ii g (by rw [oy,e3])) (.cells #[.bool true,.int .i64 v1] 161)
     clear g q oy q2 G1
     go_wp2
     go_roundw
     case rel=>exact ⟨k+1,by omega,G2,by go_num⟩
     case measure=>simp [intOf];omega
  ·obtain rfl:k=16:=by omega
   have G:Hid (CJ w wr _ (on P u) 16):=g
   obtain ⟨a,cap,rfl⟩:=An g.own
   clear g
   go_wp2
   go_ret
   exact ⟨_,rfl,G.out⟩
end Go.Proofs.YtdlhlfpigcgapaaGreatDoor.Rou

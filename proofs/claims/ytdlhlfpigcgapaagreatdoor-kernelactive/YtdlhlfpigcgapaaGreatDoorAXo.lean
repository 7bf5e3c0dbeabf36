import Derived.Test.YtdlhlfpigcgapaaGreatDoorAZal
import Derived.Test.YtdlhlfpigcgapaaGreatDoorAXa
import Derived.Deep.RegionHeld3
import Derived.Laws.BitsAllLaws
import Derived.Lib.BitFns
import Derived.Deep.RegionLaw
import Derived.Deep.DeepCutAuto
import Derived.Deep.CutBlock
set_option maxRecDepth 100000
set_option maxHeartbeats 16000000
set_option linter.unusedVariables false
set_option linter.unusedSimpArgs false
set_option linter.defProp false
namespace Go.Proofs.YtdlhlfpigcgapaaGreatDoor.Om
variable {A:List Nat} {f:Nat->Bool} {m p:Nat}
def bt (A:List Nat) (i:Nat):Bool:=(A.getD (i / 8) 0).testBit (i % 8)
def lz (x:Nat):Nat:=((List.range 8).find? λj=>!x.testBit j).getD 0
def sb (x j:Nat) (b:Bool):Nat:=if b=true then x ||| 2 ^ j else x-(if x.testBit j=true then 2 ^ j else 0)
def em (A:List Nat) (p:Nat):Bool:=A.getD p 0==0
def fu (A:List Nat) (p:Nat):Bool:=A.getD p 0==255
def pt (A:List Nat) (p:Nat):Bool:=!em A p&&!fu A p
def fi (f:Nat->Bool) (m:Nat):Option Nat:=(List.range m).find? f
def ct (f:Nat->Bool) (m:Nat):Nat:=((List.range m).filter f).length
def nx (m:Nat) (A:List Nat):Option Nat:=match fi (pt A) m with
 | some p=>some p
 | none=>fi (em A) m
def DW (m:Nat) (A:List Nat):Int:=match nx m A with
 | some p=>((p*8+lz (A.getD p 0)+1:Nat):Int)
 | none=>0
def Bg (m:Nat) (A:List Nat):Int:=match nx m A with
 | some _=>0
 | none=>5
def Cx (m:Nat) (A:List Nat):List Nat:=match nx m A with
 | some p=>A.set p (sb (A.getD p 0) (lz (A.getD p 0)) true)
 | none=>A
def ou (m:Nat) (A:List Nat) (n:Int):Bool:=decide (1<=n/\n<=8*m)&&bt A (n-1).toNat
def VA (m:Nat) (A:List Nat) (n:Int):Int:=if ou m A n=true then 0 else 4
def FY (m:Nat) (A:List Nat) (n:Int):List Nat:=if ou m A n=true then A.set ((n-1).toNat / 8) (sb (A.getD ((n-1).toNat / 8) 0) ((n-1).toNat % 8) false) else A
structure Pg (m:Nat) (A:List Nat):Prop where
 len:A.length=12
 lt:∀ p,A.getD p 0<256
 m1:1<=m
 m2:m<=12
def Qh:∀ x,x<255->lz x<8:=by decide +kernel
def Wh:∀ x,x<255->x.testBit (lz x)=false:=by decide +kernel
def Qi:∀ x,x<256->∀ j,j<8->sb x j true<256/\sb x j false<256:=by decide +kernel
def kW:∀ x,x<256->∀ j,j<8->∀ k,k<8->(sb x j true).testBit k=if k=j then true else x.testBit k:=by decide +kernel
def wQ:∀ x,x<256->∀ j,j<8->∀ k,k<8->(sb x j false).testBit k=if k=j then false else x.testBit k:=by decide +kernel
def Ku (f:Nat->Bool) (k:Nat):fi f (k+1)=match fi f k with
 | some p=>some p
 | none=>if f k=true then some k else none:=by
 unfold fi
 rw [AEK,List.find?_append]
 cases h:(List.range k).find? f with
 | some p=>rfl
 | none=>
  by_cases c:f k=true
  ·simp [c]
  ·simp [c]
def Kw (h:fi f m=some p):p<m/\f p=true/\∀ j,j<p->f j=false:=by
 induction m with
 | zero=>simp [fi] at h
 | succ k ih=>
  rw [Ku] at h
  cases e:fi f k with
  | some q=>
   rw [e] at h
   simp at h
   subst h
   have:=ih e
   exact ⟨by omega,this.2⟩
  | none=>
   rw [e] at h
   by_cases c:f k=true
   ·simp [c] at h
    subst h
    refine ⟨by omega,c,λj hj=>?_⟩
    unfold fi at e
    rw [ADw] at e
    simpa using e j (by simpa using hj)
   ·simp [c] at h
def VB (h:fi f m=none):∀ j,j<m->f j=false:=by
 unfold fi at h
 rw [ADw] at h
 intro j hj
 simpa using h j (by simpa using hj)
def ABg (h:∀ j,j<m->f j=false):fi f m=none:=by
 unfold fi
 rw [ADw]
 intro j hj
 simp [h j (by simpa using hj)]
def wR (hp:p<m) (hf:f p=true) (h:∀ j,j<p->f j=false):fi f m=some p:=by
 cases e:fi f m with
 | none=>rw [VB e p hp] at hf;cases hf
 | some q=>
  obtain ⟨_,h2,h3⟩:=Kw e
  congr 1
  rcases AEu q p with g | g | g
  ·rw [h q g] at h2;cases h2
  ·exact g
  ·rw [h3 p g] at hf;cases hf
def Kx (f:Nat->Bool) (k:Nat):ct f (k+1)=ct f k+(if f k=true then 1 else 0):=by
 unfold ct
 rw [AEK,AEQ,ADa]
 by_cases c:f k=true
 ·simp [c]
 ·simp [c]
def ABh (h:Pg m A) (k:fu A p=false):A.getD p 0<255:=by
 have:=h.lt p
 unfold fu at k
 have:A.getD p 0≠255:=by simpa using k
 omega
def Cp (h:Pg m A) (e:nx m A=some p):p<m/\A.getD p 0<255:=by
 unfold nx at e
 cases g:fi (pt A) m with
 | some q=>
  rw [g] at e
  simp at e
  subst e
  obtain ⟨h1,h2,_⟩:=Kw g
  unfold pt at h2
  simp at h2
  exact ⟨h1,ABh h h2.2⟩
 | none=>
  rw [g] at e
  simp at e
  obtain ⟨h1,h2,_⟩:=Kw e
  unfold em at h2
  have:A.getD p 0=0:=by simpa using h2
  exact ⟨h1,by omega⟩
def Bx (A:List Nat) (p y i:Nat) (hp:p<A.length):(A.set p y).getD i 0=if i=p then y else A.getD i 0:=by
 rw [ADY,AD6]
 by_cases e:p=i
 ·subst e
  simp [hp]
 ·rw [AHh e,AHh (λg=>e g.symm),ADY]
def Jr (h:Pg m A) (p y:Nat) (hy:y<256):Pg m (A.set p y):=by
 refine ⟨by simp [h.len],λi=>?_,h.m1,h.m2⟩
 rw [ADY,AD6]
 by_cases e:p=i
 ·subst e
  by_cases l:p<A.length
  ·simp [l,hy]
  ·simp [l]
 ·rw [AHh e,<- ADY]
  exact h.lt i
def oO (h:Pg m A):Pg m (Cx m A):=by
 unfold Cx
 cases e:nx m A with
 | none=>exact h
 | some p=>
  obtain ⟨h1,h2⟩:=Cp h e
  exact Jr h _ _ (Qi _ (h.lt p) _ (Qh _ h2)).1
def VC (h:Pg m A) (n:Int):Pg m (FY m A n):=by
 unfold FY
 by_cases c:ou m A n=true
 ·rw [AHi c]
  exact Jr h _ _ (Qi _ (h.lt _) _ (by omega)).2
 ·rw [AHh c]
  exact h
def NJ (h:Pg m A) (k:Nat) (hk:k<8*m) (b:Bool) (i:Nat):bt (A.set (k / 8) (sb (A.getD (k / 8) 0) (k % 8) b)) i=if i=k then b else bt A i:=by
 have:=h.m2
 have:=h.len
 unfold bt
 rw [Bx _ _ _ _ (by omega)]
 by_cases e:i / 8=k / 8
 ·rw [AHi e]
  have e2:(sb (A.getD (k / 8) 0) (k % 8) b).testBit (i % 8)=if i % 8=k % 8 then b else (A.getD (k / 8) 0).testBit (i % 8):=by
   cases b with
   | true=>exact kW _ (h.lt _) _ (by omega) _ (by omega)
   | false=>exact wQ _ (h.lt _) _ (by omega) _ (by omega)
  rw [e2,e]
  by_cases g:i % 8=k % 8
  ·rw [AHi g,AHi (by omega)]
  ·rw [AHh g,AHh (by omega)]
 ·rw [AHh e,AHh (by intro g;exact e (by rw [g]))]
end Go.Proofs.YtdlhlfpigcgapaaGreatDoor.Om
namespace Go.Proofs.YtdlhlfpigcgapaaGreatDoor.Sta
open Om
variable {A:List Nat} {k:Nat}
def oP (A:List Nat) (p k:Nat) (h:k<8):bt A (8*p+k)=(A.getD p 0).testBit k:=by
 unfold bt
 rw [show (8*p+k) / 8=p by omega,show (8*p+k) % 8=k by omega]
def fD {f g:Nat->Bool} (h:∀ j,j<k->f j=g j):ct f k=ct g k:=by
 induction k with
 | zero=>rfl
 | succ k ih=>rw [Kx,Kx,ih (λj hj=>h j (by omega)),h k (by omega)]
def fF (h:∀ j,j<k->pt A j=false):ct (em A) k+ct (fu A) k=k:=by
 induction k with
 | zero=>rfl
 | succ k ih=>
  have i:=ih (λj hj=>h j (by omega))
  have hk:=h k (by omega)
  rw [Kx,Kx]
  unfold pt at hk
  cases e:em A k with
  | true=>
   have:fu A k=false:=by unfold em at e;unfold fu;rw [show A.getD k 0=0 by simpa using e];rfl
   rw [this]
   simp
   omega
  | false=>
   rw [e] at hk
   have:fu A k=true:=by simpa using hk
   rw [this]
   simp
   omega
def Pu {m:Nat} (h:Pg m A) {p:Nat} (e:nx m A=some p):
 (1:Int)<=DW m A/\DW m A<=8*m/\ou m A (DW m A)=false/\ou m (Cx m A) (DW m A)=true/\(¬ (((ct (em (Cx m A)) m:Nat):Int)<((ct (em A) m:Nat):Int))\/¬ ((0:Int)<((m-ct (em A) m-ct (fu A) m:Nat):Int))):=by
 obtain ⟨hp,hx⟩:=Cp h e
 have hl:=Qh _ hx
 have n1:DW m A=((8*p+lz (A.getD p 0)+1:Nat):Int):=by unfold DW;rw [e];simp;omega
 have a1:Cx m A=A.set p (sb (A.getD p 0) (lz (A.getD p 0)) true):=by unfold Cx;rw [e]
 have b1:bt A (8*p+lz (A.getD p 0))=false:=by rw [oP A p _ hl];exact Wh _ hx
 have b2:bt (Cx m A) (8*p+lz (A.getD p 0))=true:=by
  have:=NJ h (8*p+lz (A.getD p 0)) (by omega) true (8*p+lz (A.getD p 0))
  rw [show (8*p+lz (A.getD p 0)) / 8=p by omega,show (8*p+lz (A.getD p 0)) % 8=lz (A.getD p 0) by omega] at this
  rw [a1,this,AHi rfl]
 refine ⟨by omega,by omega,?_,?_,?_⟩
 ·unfold ou
  rw [n1,show (((8*p+lz (A.getD p 0)+1:Nat):Int)-1).toNat=8*p+lz (A.getD p 0) by omega,b1]
  simp
 ·unfold ou
  rw [n1,show (((8*p+lz (A.getD p 0)+1:Nat):Int)-1).toNat=8*p+lz (A.getD p 0) by omega,b2,AHj (by omega)]
  rfl
 ·unfold nx at e
  cases g:fi (pt A) m with
  | none=>
   have:=fF (VB g)
   right
   omega
  | some q=>
   rw [g] at e
   simp at e
   subst e
   left
   have hq:=(Kw g).2.1
   have hz:em A q=false:=by
    unfold pt at hq
    simp at hq
    exact hq.1
   have hlen:=h.len
   have hm2:=h.m2
   rw [a1,fD (g:=em A) λj hj=>?_]
   ·omega
   ·unfold em
    rw [Bx _ _ _ _ (by omega)]
    by_cases d:j=q
    ·subst d
     rw [AHi rfl]
     unfold em at hz
     rw [hz]
     have t:=kW _ (h.lt j) _ hl _ hl
     rw [AHi rfl] at t
     have:sb (A.getD j 0) (lz (A.getD j 0)) true≠0:=λc=>by rw [c] at t;simp at t
     simpa using this
    ·rw [AHh d]
open Go.ChangeShapes Go.WideShapes Go.ChangeAt Go.RowKit
variable {K:List (List Int)} {V cur:List Value} {w w' w1:World} {A S:List Nat} {l' xs ys:List Int} {t tS:TypeId} {u v v':Value} {b cap g i lb m n off pb:Nat} {y:Int}
def wS:∀ x,x<255->Lib.trailingZeros8 (255-x)=lz x:=by decide +kernel
def oQ (x:Nat) (w:World) (h:(x:Int)<255):
 Calls Tryz.prog 354 #[.int .u8 ((255-x:Nat):Int)] w λe w'=>e=.returned (.int .i64 ((lz x:Nat):Int))/\w'=w:=by
 have e:=Lib.ntz8_int ((255-x:Nat):Int) (by omega) (by omega)
 rw [AD4,wS x (by omega)] at e
 have E:Hid (wrap64 (Lib.ntz8 ((255-x:Nat):Int))=((lz x:Nat):Int)):=by
  rw [<- e]
  generalize Lib.ntz8 ((255-x:Nat):Int)=t
  unfold Hid wrap64
  rfl
 have h1:((255-x:Nat):Int)<=255:=by omega
 clear e h
 generalize 255-x=y at *
 have h0:(0:Int)<=y:=by omega
 go_enter Tryz.func354,Tryz.ntmps354
 go_wp2
 go_ret
 exact ⟨AHo (λq=>Ending.returned (.int .i64 q)) E.out,rfl⟩
def bv (x:Nat):Value:=.int .u8 (x:Int)
def Tt (xs:List Nat) (i:Nat) (h:i<xs.length):(xs.map bv)[i]?=some (.int .u8 ((xs.getD i 0:Nat):Int)):=by
 rw [ADn,ADZ h,ADY,ADZ h]
 rfl
structure PO (w:World) (b m:Nat) (A:List Nat):Prop where
 sb:AB w b (A.map bv++[.int .i64 (m:Int)]) 239
 pg:Pg m A
def PO.c (h:PO w b m A):w.cell? ⟨b,12,none⟩=some (.int .i64 (m:Int)):=by
 rw [h.sb.cell 12,ADj (by simp [h.pg.len])]
 simp [h.pg.len]
def PO.f (h:PO w b m A) (i:Nat):w.frozen? ⟨b,i,none⟩=false:=h.sb.free i
def PO.heap {w w1:World} {b m:Nat} {A:List Nat} (h:PO w b m A) (e:w1.heap=w.heap):PO w1 b m A:=⟨h.sb.heap e,h.pg⟩
def PO.AA {B:Nat} {S:List Nat} {w w':World} {b m:Nat} {A:List Nat} (h:PO w b m A) (k:Fr B S w w') (hb:b<B) (hs:b∉S):PO w' b m A:=⟨h.sb.AA k hb hs,h.pg⟩
def PO.at (h:PO w b m A) (i:Nat) (hi:i<12):w.cell? ⟨b,i,none⟩=some (.int .u8 ((A.getD i 0:Nat):Int)):=by
 rw [h.sb.cell i,ADl (by simp [h.pg.len];exact hi),Tt A i (by rw [h.pg.len];exact hi)]
def SD (h:PO w b m A) (p y:Nat) (hp:p<12) (hy:y<256):PO (w.setCell ⟨b,p,none⟩ (.int .u8 (y:Int))) b m (A.set p y):=by
 refine ⟨?_,Jr h.pg p y hy⟩
 have:=h.sb.set p (.int .u8 (y:Int))
 rw [List.set_append_left _ _ (by simp [h.pg.len];exact hp),show Value.int .u8 (y:Int)=bv y from rfl,<- AFT] at this
 exact this
def Ky (k:Nat) (h:k<8):2 ^ k<256:=AEz (AEd (by omega) h) rfl
def wT (k:Nat) (h:k<8):IntKind.u8.wrap ((2:Int) ^ k)=((2 ^ k:Nat):Int):=by
 have hp:=Ky k h
 have e:((2:Int) ^ k)=((2 ^ k:Nat):Int):=by simp
 rw [e,IntKind.wrap_u8']
 generalize 2 ^ k=q at *
 omega
def ACt:∀ x,x<256->∀ j,j<8->((x&&& 2 ^ j !=0)=x.testBit j):=by decide +kernel
def oR:∀ x,x<256->∀ j,j<8->x&&& (255-2 ^ j)=sb x j false:=by decide +kernel
def Lw (m:Nat) (w:World) (h1:(1:Int)<=m) (h2:(m:Int)<=12):
 Calls Tryz.prog 68 #[.int .i64 (m:Int)] w λe w'=>e=.returned (.tuple #[.pointer (some ⟨w.heap.size,0,none⟩),.int .i64 0])/\PO w' w.heap.size m (List.replicate 12 0)/\Fr w.heap.size [] w w':=by
 have F:Hid (∀ o,Fr w.heap.size [] w (w.alloc o)):=λo=>(Fr.refl _ _ _).alloc (ADW _) o
 have G:Hid (PO (w.alloc (.cells ((List.replicate 12 0).map bv++[Value.int .i64 (m:Int)]).toArray 239)) w.heap.size m (List.replicate 12 0)):=
  ⟨AB.new w _ _,by simp,λp=>by rw [ADY,AEA];split <;> simp,by omega,by omega⟩
 go_enter Tryz.func68,Tryz.ntmps68
 go_wp2
 go_ret2
 exact ⟨rfl,G.out,F.out _⟩
def Wi {a b c d:Int} (h:a=b) (g:c=d):Ending.returned (.tuple #[.int .i64 a,.int .u8 c])=.returned (.tuple #[.int .i64 b,.int .u8 d]):=by rw [h,g]
def Ew (n:Nat) (w:World) (h1:(1:Int)<=n) (h2:(n:Int)<=96):
 Calls Tryz.prog 355 #[.int .i64 (n:Int)] w λe w'=>e=.returned (.tuple #[.int .i64 (((n-1) / 8:Nat):Int),.int .u8 ((2 ^ ((n-1) % 8):Nat):Int)])/\∃ k,w'=w.drewN k:=by
 have P:Hid (IntKind.u8.wrap ((2:Int) ^ ((n-1) % 8))=((2 ^ ((n-1) % 8):Nat):Int)):=wT _ (by omega)
 have D:Hid (((n:Int)-1) / 8=(((n-1) / 8:Nat):Int)):=by unfold Hid;omega
 go_enter Tryz.func355,Tryz.ntmps355
 go_wp2
 go_quiet (fail)
 go_wp2
 go_ret2
 exact ⟨Wi D.out P.out,_,rfl⟩
def SE (n:Int) (w:World) (h:PO w b m A):
 Calls Tryz.prog 333 #[.pointer (some ⟨b,0,none⟩),.int .i64 n] w λe w'=>e=.returned (.bool (ou m A n))/\∃ k,w'=w.drewN k:=by
 have c1:=h.c
 have hm:(m:Int)<=12:=by have:=h.pg.m2;omega
 by_cases l:n<1
 ·rw [show ou m A n=false by unfold ou;rw [AHk (by omega)];rfl]
  clear h
  go_enter Tryz.func333,Tryz.ntmps333
  go_wp2
  go_ret
  exact ⟨rfl,0,rfl⟩
 ·by_cases u:(m:Int)*8<n
  ·rw [show ou m A n=false by unfold ou;rw [AHk (by omega)];rfl]
   clear h
   go_enter Tryz.func333,Tryz.ntmps333
   go_wp2
   go_ret
   exact ⟨rfl,0,rfl⟩
  ·obtain ⟨k,rfl⟩:=AD8 (show 0<=n by omega)
   have hv:ou m A (k:Int)=(A.getD ((k-1) / 8) 0).testBit ((k-1) % 8):=by
    unfold ou bt
    rw [AHj (by omega),AEC,show ((k:Int)-1).toNat=k-1 by omega]
   rw [hv,<- ACt _ (h.pg.lt _) _ (by omega)]
   have C:Hid (∀ _:Unit,_):=λ_=>Ew k w (by omega) (by omega)
   have cg:=h.at ((k-1) / 8) (by omega)
   have hj2:(((k-1) / 8:Nat):Int)<12:=by omega
   have ha:=u8_and_nat (A.getD ((k-1) / 8) 0) (2 ^ ((k-1) % 8)) (h.pg.lt _) (Ky _ (by omega))
   have hz:Hid (((((A.getD ((k-1) / 8) 0&&& 2 ^ ((k-1) % 8):Nat):Int)) !=0)=((A.getD ((k-1) / 8) 0&&& 2 ^ ((k-1) % 8)) !=0)):=by
    unfold Hid
    generalize (A.getD ((k-1) / 8) 0&&& 2 ^ ((k-1) % 8))=z
    cases z <;> rfl
   clear h hv
   generalize 2 ^ ((k-1) % 8)=p at *
   generalize (k-1) / 8=j at *
   generalize A.getD j 0&&& p=z at *
   generalize A.getD j 0=x at *
   go_enter Tryz.func333,Tryz.ntmps333
   go_wp2_with fail
   refine (C.out ()).mono ?_
   rintro e w' ⟨rfl,k,rfl⟩
   go_wp2
   go_ret
   exact ⟨AHo (λq=>Ending.returned (.bool q)) hz.out,_,rfl⟩
def ZR (n:Int) (w:World) (h:PO w b m A):
 Calls Tryz.prog 335 #[.pointer (some ⟨b,0,none⟩),.int .i64 n] w λe w'=>e=.returned (.int .i64 (VA m A n))/\PO w' b m (FY m A n)/\Fr w.heap.size [b] w w':=by
 have C:Hid (∀ _:Unit,_):=λ_=>SE n w h
 cases e:ou m A n with
 | false=>
  rw [e] at C
  rw [show VA m A n=4 by unfold VA;rw [e];rfl,show FY m A n=A by unfold FY;rw [e];rfl]
  have HT:Hid (PO w b m A):=h
  clear h e
  go_enter Tryz.func335,Tryz.ntmps335
  go_wp2_with fail
  refine (C.out ()).mono ?_
  rintro e w' ⟨rfl,k,rfl⟩
  go_wp2
  go_ret
  exact ⟨rfl,HT.out.heap rfl,(Fr.refl _ _ _).drewN _⟩
 | true=>
  rw [e] at C
  have hn:1<=n/\n<=8*m:=by
   unfold ou at e
   rw [ADe] at e
   exact of_decide_eq_true e.1
  have hm:(m:Int)<=12:=by have:=h.pg.m2;omega
  obtain ⟨k,rfl⟩:=AD8 (show 0<=n by omega)
  rw [show VA m A (k:Int)=0 by unfold VA;rw [e];rfl,show FY m A (k:Int)=A.set ((k-1) / 8) (sb (A.getD ((k-1) / 8) 0) ((k-1) % 8) false) by unfold FY;rw [e,show ((k:Int)-1).toNat=k-1 by omega];rfl]
  have D:Hid (∀ q:Nat,_):=λq=>Ew k (w.drewN q) (by omega) (by omega)
  have cg:=h.at ((k-1) / 8) (by omega)
  have fg:w.frozen? ⟨b,(k-1) / 8,none⟩=false:=h.f _
  have hj2:(((k-1) / 8:Nat):Int)<12:=by omega
  have ha:=u8_andNot_nat (A.getD ((k-1) / 8) 0) (2 ^ ((k-1) % 8)) (h.pg.lt _) (Ky _ (by omega))
  rw [oR _ (h.pg.lt _) _ (by omega)] at ha
  have TS:Hid (∀ w1:World,w1.heap=w.heap->_):=λw1 e1=>SD (h.heap e1) ((k-1) / 8) (sb (A.getD ((k-1) / 8) 0) ((k-1) % 8) false) (by omega) (Qi _ (h.pg.lt _) _ (by omega)).2
  clear h e hn hm
  generalize sb (A.getD ((k-1) / 8) 0) ((k-1) % 8) false=z at *
  generalize 2 ^ ((k-1) % 8)=p at *
  generalize (k-1) / 8=j at *
  generalize A.getD j 0=x at *
  go_enter Tryz.func335,Tryz.ntmps335
  go_wp2_with fail
  refine (C.out ()).mono ?_
  rintro e w' ⟨rfl,q,rfl⟩
  go_wp2_with fail
  refine (D.out q).mono ?_
  rintro e w' ⟨rfl,q2,rfl⟩
  go_wp2_with fail
  go_region
  all_goals go_wp2
  go_ret
  refine ⟨rfl,TS.out (World.drewN _ _) rfl,(Fr.drewN ?_ _).setCell (Or.inr (by simp)) _⟩
  exact Fr.refl _ _ _
def oS {p:Nat} (h1:p<m) (h2:pt A p=true) (h3:∀ j,j<p->pt A j=false):nx m A=some p:=by
 unfold nx
 rw [wR h1 h2 h3]
def oT (h3:∀ j,j<m->pt A j=false):nx m A=fi (em A) m:=by
 unfold nx
 rw [ABg h3]
def Iw (w:World) (h:PO w b m A):
 Calls Tryz.prog 353 #[.pointer (some ⟨b,0,none⟩)] w λe w'=>e=.returned (.tuple #[.int .i64 (((nx m A).getD 0:Nat):Int),.bool (nx m A).isSome])/\w'=w:=by
 have c:=h.c
 have hm:(m:Int)<=12:=by have:=h.pg.m2;omega
 have HC:Hid (∀ k:Nat,(k:Int)<m->w.cell? ⟨b,k,none⟩=some (.int .u8 ((A.getD k 0:Nat):Int))):=λk hk=>h.at k (by omega)
 obtain ⟨R1,e1⟩:∃ R1,(nx m A).getD 0=R1:=⟨_,rfl⟩
 obtain ⟨R2,e2⟩:∃ R2,(nx m A).isSome=R2:=⟨_,rfl⟩
 have HR:Hid ((nx m A).getD 0=R1/\(nx m A).isSome=R2):=⟨e1,e2⟩
 rw [e1,e2]
 clear h e1 e2
 go_enter Tryz.func353,Tryz.ntmps353
 go_wp2
 go_loop [4,5,11] (λf g i=>∃ (k F:Nat) (G:Bool),(k:Int)<=m/\Hid (∀ j,j<k->pt A j=false)/\Hid ((fi (em A) k).getD 0=F/\(fi (em A) k).isSome=G)/\f=.int .i64 F/\g=.bool G/\i=.int .i64 k) (λ_ _ i=>m-(intOf i).toNat)
 case atStart=>exact ⟨0,0,false,by omega,λj hj=>by omega,⟨rfl,rfl⟩,rfl,rfl,rfl⟩
 case round=>
  obtain ⟨k,F,G,hk,hN,hF,rfl,rfl,rfl⟩:=hrel
  by_cases l:(k:Int)<m
  ·have cg:=HC.out k l
   have hk12:(k:Int)<12:=by omega
   by_cases x1:A.getD k 0=255
   ·have s1:em A k=false:=by unfold em;rw [x1];rfl
    have s2:pt A k=false:=by unfold pt fu;rw [x1];simp
    have N2:Hid (∀ j,j<k+1->pt A j=false):=λj hj=>by
     by_cases d:j=k
     ·subst d;exact s2
     ·exact hN.out j (by omega)
    have F2:Hid ((fi (em A) (k+1)).getD 0=F/\(fi (em A) (k+1)).isSome=G):=by
     have:=hF.out
     rw [Ku,s1]
     cases g:fi (em A) k with
     | some p=>rw [g] at this;exact this
     | none=>rw [g] at this;exact this
    rw [x1] at cg
    clear s1 s2 x1
    go_wp2
    go_round
    case rel=>exact ⟨k+1,F,G,by omega,N2,F2,rfl,rfl,by go_num⟩
    case measure=>simp [intOf];omega
   ·by_cases x0:A.getD k 0=0
    ·have s1:em A k=true:=by unfold em;rw [x0];rfl
     have s2:pt A k=false:=by unfold pt;rw [s1];rfl
     have N2:Hid (∀ j,j<k+1->pt A j=false):=λj hj=>by
      by_cases d:j=k
      ·subst d;exact s2
      ·exact hN.out j (by omega)
     rw [x0] at cg
     clear s2 x1 x0
     cases G with
     | true=>
      have F2:Hid ((fi (em A) (k+1)).getD 0=F/\(fi (em A) (k+1)).isSome=true):=by
       have:=hF.out
       rw [Ku]
       cases g:fi (em A) k with
       | some p=>rw [g] at this;exact this
       | none=>rw [g] at this;simp at this
      clear s1
      go_wp2
      go_round
      case rel=>exact ⟨k+1,F,true,by omega,N2,F2,rfl,rfl,by go_num⟩
      case measure=>simp [intOf];omega
     | false=>
      have F2:Hid ((fi (em A) (k+1)).getD 0=k/\(fi (em A) (k+1)).isSome=true):=by
       have:=hF.out
       rw [Ku,s1]
       cases g:fi (em A) k with
       | some p=>rw [g] at this;simp at this
       | none=>exact ⟨rfl,rfl⟩
      clear s1
      go_wp2
      go_round
      case rel=>exact ⟨k+1,k,true,by omega,N2,F2,rfl,rfl,by go_num⟩
      case measure=>simp [intOf];omega
    ·have s:pt A k=true:=by unfold pt em fu;simp only [ADe,AHr,AHl];exact ⟨x0,x1⟩
     have e:=oS (m:=m) (by omega) s hN.out
     have hr:=HR.out
     rw [e] at hr
     obtain ⟨r1,r2⟩:=hr
     simp at r1 r2
     subst r1
     subst r2
     generalize A.getD k 0=x at *
     have y1:((x:Int)==255)=false:=by simp;omega
     have y0:((x:Int)==0)=false:=by simp;omega
     clear e s x0 x1
     go_wp2
     go_ret2
     exact ⟨rfl,rfl⟩
  ·have hkm:k=m:=by omega
   subst hkm
   have hr:=HR.out
   rw [oT hN.out] at hr
   have hf:=hF.out
   obtain rfl:F=R1:=by rw [<- hf.1,<- hr.1]
   obtain rfl:G=R2:=by rw [<- hf.2,<- hr.2]
   clear hr hf
   go_wp2
   go_ret2
   exact ⟨rfl,rfl⟩
def ACu (x:Nat) (h:x<256):bits .xor .u8 (IntKind.u8.max) (x:Int)=((255-x:Nat):Int):=by
 have e:∀ x,x<256->255 ^^^ x=255-x:=by decide +kernel
 rw [show IntKind.u8.max=((255:Nat):Int) from rfl,u8_xor_nat 255 x (by omega) h,e x h]
def ZS (w:World) (h:PO w b m A):
 Calls Tryz.prog 332 #[.pointer (some ⟨b,0,none⟩)] w λe w'=>e=.returned (.tuple #[.int .i64 (DW m A),.int .i64 (Bg m A)])/\PO w' b m (Cx m A)/\Fr w.heap.size [b] w w':=by
 have C:Hid (∀ _:Unit,_):=λ_=>Iw w h
 have HT:Hid (PO w b m A):=h
 cases e:nx m A with
 | none=>
  rw [e] at C
  rw [show DW m A=0 by unfold DW;rw [e],show Bg m A=5 by unfold Bg;rw [e],show Cx m A=A by unfold Cx;rw [e]]
  clear h e
  go_enter Tryz.func332,Tryz.ntmps332
  go_wp2_with fail
  refine (C.out ()).mono ?_
  rintro e w' ⟨rfl,rfl⟩
  go_wp2
  go_ret2
  exact ⟨rfl,HT.out,Fr.refl _ _ _⟩
 | some p=>
  rw [e] at C
  obtain ⟨hp,hx⟩:=Cp h.pg e
  have hm:(m:Int)<=12:=by have:=h.pg.m2;omega
  have hp2:(p:Int)<12:=by omega
  have hl:=Qh _ hx
  have hl2:((lz (A.getD p 0):Nat):Int)<8:=by omega
  rw [show DW m A=(p:Int)*8+((lz (A.getD p 0):Nat):Int)+1 by unfold DW;rw [e];simp,show Bg m A=0 by unfold Bg;rw [e],show Cx m A=A.set p (sb (A.getD p 0) (lz (A.getD p 0)) true) by unfold Cx;rw [e]]
  simp only [AEc,Option.isSome_some] at C
  have D:Hid (∀ _:Unit,_):=λ_=>oQ (A.getD p 0) w (by omega)
  have cg:=h.at p (by omega)
  have fg:w.frozen? ⟨b,p,none⟩=false:=h.f _
  have x8:=ACu (A.getD p 0) (h.pg.lt p)
  have e8:=wT _ hl
  have o8:=u8_or_nat (A.getD p 0) (2 ^ lz (A.getD p 0)) (h.pg.lt p) (Ky _ hl)
  have TS:Hid (∀ w1:World,w1.heap=w.heap->_):=λw1 e1=>SD (h.heap e1) p (sb (A.getD p 0) (lz (A.getD p 0)) true) (by omega) (Qi _ (h.pg.lt p) _ hl).1
  rw [show A.getD p 0 ||| 2 ^ lz (A.getD p 0)=sb (A.getD p 0) (lz (A.getD p 0)) true from rfl] at o8
  clear h e hx hl hp
  generalize sb (A.getD p 0) (lz (A.getD p 0)) true=z at *
  generalize lz (A.getD p 0)=l at *
  generalize 255-A.getD p 0=y at *
  generalize A.getD p 0=x at *
  generalize 2 ^ l=t at *
  go_enter Tryz.func332,Tryz.ntmps332
  go_wp2_with fail
  refine (C.out ()).mono ?_
  rintro e w' ⟨rfl,rfl⟩
  go_wp2_with fail
  refine (D.out ()).mono ?_
  rintro e w' ⟨rfl,rfl⟩
  go_wp2_with fail
  go_region
  all_goals go_wp2
  go_ret2
  refine ⟨rfl,TS.out (World.drewN _ _) rfl,(Fr.drewN ?_ _).setCell (Or.inr (by simp)) _⟩
  exact Fr.refl _ _ _
def Lv (w:World) (v:Value) (xs:List Int):Prop:=
 (v=.slice none 0 0/\xs=[])\/∃ (g off cap:Nat) (cur:List Value),v=.slice (some ⟨g,off,none⟩) xs.length cap/\xs.length<=cap/\AB w g cur 3/\off+cap<=cur.length/\∀ j,j<xs.length->cur[off+j]?=some (.int .i64 (xs.getD j 0))
def vb (v:Value):List Nat:=match v with
 | .slice (some a) _ _=>[a.block]
 | _=>[]
def Ap (v u:Value):Prop:=∀ (g off n cap g2 off2 n2 cap2:Nat),v=.slice (some ⟨g,off,none⟩) n cap->u=.slice (some ⟨g2,off2,none⟩) n2 cap2->g≠g2\/off+cap<=off2\/off2+cap2<=off
def Ap.symm {v u:Value} (h:Ap v u):Ap u v:=λg off n cap g2 off2 n2 cap2 e1 e2=>by
 rcases h g2 off2 n2 cap2 g off n cap e2 e1 with h | h | h
 ·exact Or.inl λe=>h e.symm
 ·exact Or.inr (Or.inr h)
 ·exact Or.inr (Or.inl h)
def wX (u:Value) (n cap:Nat):Ap (.slice none n cap) u:=λ_ _ _ _ _ _ _ _ e=>by simp at e
def Lv.row (h:Lv w v xs):Row w v xs:=by
 rcases h with ⟨rfl,rfl⟩ | ⟨g,off,cap,cur,rfl,_,hb,_,hc⟩
 ·exact Or.inl ⟨rfl,none,0,rfl⟩
 ·exact Or.inr ⟨g,off,cap,rfl,hb.lt,λi hi=>by rw [hb.cell];exact hc i hi⟩
def Lv.shape {w:World} {v:Value} {xs:List Int} (h:Lv w v xs):∃ a cap,v=.slice a xs.length cap:=h.row.shape
def Lv.AA {B:Nat} {S:List Nat} {w w':World} {v:Value} {xs:List Int} (h:Lv w v xs) (f:Fr B S w w') (hB:w.heap.size<=B) (hS:∀ g∈vb v,g∉S):Lv w' v xs:=by
 rcases h with h | ⟨g,off,cap,cur,rfl,h1,hb,h2⟩
 ·exact Or.inl h
 ·exact Or.inr ⟨g,off,cap,cur,rfl,h1,hb.AA f (AD7 hb.lt hB) (hS g (by simp [vb])),h2⟩
def Lv.heap {w w1:World} {v:Value} {xs:List Int} (h:Lv w v xs) (e:w1.heap=w.heap):Lv w1 v xs:=by
 rcases h with h | ⟨g,off,cap,cur,rfl,h1,hb,h2⟩
 ·exact Or.inl h
 ·exact Or.inr ⟨g,off,cap,cur,rfl,h1,hb.heap e,h2⟩
def Lv.not (h:Lv w v xs) {k:Nat} {cs:List Value} (b:AB w k cs t) (ht:t≠3):k∉vb v:=by
 rcases h with ⟨rfl,_⟩ | ⟨g,off,cap,cur,rfl,_,hb,_⟩
 ·simp [vb]
 ·simp only [vb,ADu]
  exact b.ne hb ht
def Lv.lt {w:World} {v:Value} {xs:List Int} (h:Lv w v xs):∀ g∈vb v,g<w.heap.size:=by
 rcases h with ⟨rfl,_⟩ | ⟨g,off,cap,cur,rfl,_,hb,_⟩
 ·simp [vb]
 ·simpa [vb] using hb.lt
def SF {base:Nat} (h:w.ownsRow base 3 1 v xs.length (xs.map (Value.int .i64))):Lv w v xs/\∀ g∈vb v,base<=g:=by
 rcases h.2 with ⟨rfl,e⟩ | ⟨g,cap,cur,rfl,hg,hh,hn,hc,hz,ht⟩
 ·exact ⟨Or.inl ⟨rfl,ADh e⟩,by simp [vb]⟩
 ·refine ⟨Or.inr ⟨g,0,cap,cur.toList,rfl,hn,by unfold AB;rw [AEn];exact hh,by rw [AFx,hz];omega,λj hj=>?_⟩,by simpa [vb] using hg⟩
  have:=AHo (λl=>l[j]?) ht
  simp only [AEx] at this
  rw [ADm,AHi hj] at this
  rw [ADs,this,Ae xs j hj]
structure Wr (w w':World) (g off cap:Nat) (cur cur':List Value):Prop where
 was:AB w g cur 3
 now:AB w' g cur' 3
 len:cur'.length=cur.length
 out:∀ k,k<off\/off+cap<=k->cur'[k]?=cur[k]?
 fr:Fr w.heap.size [g] w w'
def Wr.other {cur':List Value} (h:Wr w w' g off cap cur cur') (k:Lv w u ys) (a:Ap (.slice (some ⟨g,off,none⟩) n cap) u):Lv w' u ys:=by
 rcases k with k | ⟨g2,off2,cap2,cur2,rfl,h1,hb,h2,h3⟩
 ·exact Or.inl k
 ·by_cases e:g2=g
  ·subst e
   have ec:cur2=cur:=by
    have:=(show w.heap[g2]?=_ from hb).symm.trans h.was
    simpa using this
   subst ec
   refine Or.inr ⟨g2,off2,cap2,cur',rfl,h1,h.now,by rw [h.len];exact h2,λj hj=>?_⟩
   rw [h.out _ ?_]
   ·exact h3 j hj
   ·rcases a g2 off n cap g2 off2 _ cap2 rfl rfl with q | q | q
    ·exact absurd rfl q
    ·exact Or.inr (by omega)
    ·exact Or.inl (by omega)
  ·exact Or.inr ⟨g2,off2,cap2,cur2,rfl,h1,hb.AA h.fr hb.lt (by simpa using e),h2,h3⟩
def LR (w:World) (v:Value) (xs:List Int) (y:Int) (v':Value) (w':World):Prop:=
 (∃ (g off cap:Nat),v=.slice (some ⟨g,off,none⟩) xs.length cap/\xs.length<cap/\v'=.slice (some ⟨g,off,none⟩) (xs.length+1) cap/\w'=w.setCell ⟨g,off+xs.length,none⟩ (.int .i64 y))
 \/(w'.ownsRow w.heap.size 3 1 v' (xs.length+1) ((xs++[y]).map (Value.int .i64))/\w.grownBy w' none)
def oU (w:World) (ty:TypeId) (y:Int) (h:Lv w v xs) (hl:xs.length<=1000) (ad:Addr) (c:Nat) (hc:w.cell? ad=some (.int .i64 y)):
 ∃ v' w',(Builtin.append_ #[122,122] ty #[v,.slice (some ad) 1 c]).run Tryz.prog w=.ok v' w'/\LR w v xs y v' w':=by
 obtain ⟨i0,hi,hz0,hz1,hz2⟩:=info_parts Tryz.Dw
 have hn:∀ j u,([.int .i64 y]:List Value)[j]?=some u->w.cell? (ad.add j)=some u:=λj u hj=>by
  match j,hj with
  | 0,hj=>simp at hj;subst hj;simpa [Addr.add] using hc
 have h1:∀ u∈([.int .i64 y]:List Value),u.oneCell'=true:=λu hu=>by simp at hu;subst hu;rfl
 rcases h with ⟨rfl,rfl⟩ | ⟨g,off,cap,cur,rfl,hcap,hb,hfit,hcell⟩
 ·obtain ⟨v',w',hrun,r1,r2,_⟩:=run_append_own (P:=Tryz.prog) w w.heap.size 122 ty 3 i0 (.int .i64 0) 1 8 Tryz.underlying122 hi hz0 hz1 hz2 rfl (by decide) (.slice none 0 0) 0 [] (World.ownsRow_nil w _ 3 1) ad 1 c [.int .i64 y] rfl hn h1 (by unfold maxLen;omega) (by omega) (ADW _)
  exact ⟨v',w',hrun,Or.inr ⟨by simpa using r1,r2⟩⟩
 ·by_cases room:xs.length+1<=cap
  ·have e:=run_append_room_cells (P:=Tryz.prog) w 122 ty 3 i0 Tryz.underlying122 hi g off xs.length cap ad 1 c [.int .i64 y] (by rw [hz1];rfl) hn h1 room
    (λj hj=>by
     rw [hz1,hb.cell]
     simp at hj
     subst hj
     rw [ADZ (by omega)]
     rfl)
    (λj _=>hb.free _)
   refine ⟨_,_,e,Or.inl ⟨g,off,cap,rfl,by omega,rfl,?_⟩⟩
   rw [hz1,AEx]
   rfl
  ·obtain ⟨v',w',hrun,r1,r2⟩:=run_append_arg_grows (P:=Tryz.prog) w 122 ty 3 i0 (.int .i64 0) 1 8 Tryz.underlying122 hi hz0 hz1 hz2 rfl (by decide) ⟨g,off,none⟩ xs.length cap (xs.map (Value.int .i64)) (by simp)
    (λj u hj=>by
     have hj2:j<xs.length:=by
      have:=(ADc.1 hj).1
      simpa using this
     rw [Addr.add_lit,hb.cell,hcell j hj2,<- Ae xs j hj2]
     exact hj)
    ad 1 c [.int .i64 y] rfl hn (by omega) (by unfold maxLen;omega) (by omega)
   exact ⟨v',w',hrun,Or.inr ⟨by simpa using r1,r2⟩⟩
def Wj (_h:AB w g cur t) (i:Nat) (u:Value):Fr w.heap.size [g] w (w.setCell ⟨g,i,none⟩ u):=(Fr.refl _ _ _).setCell (Or.inr (by simp)) u
def wZ (hb:AB w g cur 3) (hl:xs.length<cap):
 Wr w (w.setCell ⟨g,off+xs.length,none⟩ (.int .i64 y)) g off cap cur (cur.set (off+xs.length) (.int .i64 y)):=by
 refine ⟨hb,hb.set _ _,by simp,λk hk=>?_,Wj hb _ _⟩
 rw [AEP (by omega)]
def fG (h:Lv w v xs) (a:LR w v xs y v' w'):Lv w' v' (xs++[y]):=by
 rcases a with ⟨g,off,cap,rfl,hl,rfl,rfl⟩ | ⟨own,_⟩
 ·rcases h with ⟨e,_⟩ | ⟨g2,off2,cap2,cur,e,h1,hb,h2,h3⟩
  ·simp at e
  ·simp only [Value.slice.injEq,AEB,Addr.mk.injEq] at e
   obtain ⟨⟨rfl,rfl,_⟩,_,rfl⟩:=e
   refine Or.inr ⟨g,off,cap,_,by simp,by simp;omega,hb.set _ _,by simpa using h2,λj hj=>?_⟩
   simp at hj
   by_cases e:j=xs.length
   ·subst e
    rw [List.getElem?_set_self (by omega)]
    simp
   ·rw [AEP (by omega),h3 j (by omega)]
    rw [ADY,ADY,ADl (by omega)]
 ·exact (SF (xs:=xs++[y]) (by simpa using own)).1
def ZT (h:Lv w v xs) (a:LR w v xs y v' w') (k:Lv w u ys) (p:Ap v u):Lv w' u ys/\Ap v' u:=by
 rcases a with ⟨g,off,cap,rfl,hl,rfl,rfl⟩ | ⟨own,gr⟩
 ·rcases h with ⟨e,_⟩ | ⟨g2,off2,cap2,cur,e,h1,hb,h2,h3⟩
  ·simp at e
  ·simp only [Value.slice.injEq,AEB,Addr.mk.injEq] at e
   obtain ⟨⟨rfl,rfl,_⟩,_,rfl⟩:=e
   refine ⟨(wZ hb hl).other k p,λg3 off3 n3 cap3 g4 off4 n4 cap4 e1 e2=>?_⟩
   simp only [Value.slice.injEq,AEB,Addr.mk.injEq] at e1
   obtain ⟨⟨rfl,rfl,_⟩,_,rfl⟩:=e1
   exact p _ _ _ _ _ _ _ _ rfl e2
 ·have f:Fr w.heap.size [] w w':=(Fr.refl _ _ _).grown gr (ADW _) (by simp)
  refine ⟨k.AA f (ADW _) (by simp),λg3 off3 n3 cap3 g4 off4 n4 cap4 e1 e2=>Or.inl ?_⟩
  have l1:=(SF (xs:=xs++[y]) (by simpa using own)).2 g3 (by rw [e1];simp [vb])
  have l2:=k.lt g4 (by rw [e2];simp [vb])
  omega
def xA (a:LR w v xs y v' w'):Fr w.heap.size (vb v) w w'/\∀ g∈vb v',g∈vb v\/w.heap.size<=g:=by
 rcases a with ⟨g,off,cap,rfl,hl,rfl,rfl⟩ | ⟨own,gr⟩
 ·exact ⟨(Fr.refl _ _ _).setCell (Or.inr (by simp [vb])) _,λg hg=>Or.inl hg⟩
 ·refine ⟨((Fr.refl w.heap.size [] w).grown gr (ADW _) (by simp)).mono (ADW _) (by simp),λg hg=>Or.inr ?_⟩
  exact (SF (xs:=xs++[y]) (by simpa using own)).2 g hg
def Pv (a:LR w v xs y v' w'):∃ (p:Option Addr) (cap:Nat),v'=.slice p (xs.length+1) cap:=by
 rcases a with ⟨g,off,cap,rfl,hl,rfl,rfl⟩ | ⟨own,gr⟩
 ·exact ⟨_,cap,rfl⟩
 ·exact An own
def SJ {ops:Array Oper} {o:Oper} {a:Act} {K:Act->World->Prop} {Q:Exit->Act->World->Prop} {E:Prop}
 (hg:o.guard=none) (s x:Operand) (hop:o.op=Op.call { callee:=Callee.builtin Builtin.append,args:=#[s,x],argTypes:=#[122,122] })
 (y:Int) (hs:a.eval s=v) (h:Lv w v xs) (hl:xs.length<=1000) (ad:Addr) (c:Nat) (hx:a.eval x=.slice (some ad) 1 c) (hc:w.cell? ad=some (.int .i64 y))
 (hK:∀ v' w',LR w v xs y v' w'->K (a.put o.dst v') w'):
 if Region.wanted o (yielded ops a.tmps)=true then Oper.wp Tryz.prog o a w K Q else E:=by
 have hw:Region.wanted o (yielded ops a.tmps)=true:=by simp [Region.wanted,hg]
 rw [AHi hw]
 obtain ⟨v',w',hrun,ha⟩:=oU w o.type y h hl ad c hc
 unfold Oper.wp
 simp [execOp,hop,resolve,invoke,builtin,hs,hx,hrun,Result.andThen]
 exact hK v' w' ha
def nv:Value:=.slice none 0 0
structure Ls (w:World) (V:List Value) (K:List (List Int)):Prop where
 len:V.length=K.length
 lv:∀ i,i<K.length->Lv w (V.getD i nv) (K.getD i [])
 apart:∀ i j,i<K.length->j<K.length->i≠j->Ap (V.getD i nv) (V.getD j nv)
def E6 {α:Type} (V:List α) (c i:Nat) (v d:α) (hc:c<V.length):(V.set c v).getD i d=if i=c then v else V.getD i d:=by
 rw [ADY,AD6]
 by_cases e:c=i
 ·subst e
  simp [hc]
 ·rw [AHh e,AHh (λg=>e g.symm),ADY]
def Ls.turn (h:Ls w V K) {c:Nat} (hc:c<K.length) (self:Lv w' v' l')
 (other:∀ (u:Value) (ys:List Int),Lv w u ys->Ap (V.getD c nv) u->Lv w' u ys/\Ap v' u):Ls w' (V.set c v') (K.set c l'):=by
 have hl:=h.len
 refine ⟨by simp [hl],λi hi=>?_,λi j hi hj hn=>?_⟩
 ·simp at hi
  rw [E6 V c i v' nv (by omega),E6 K c i l' [] hc]
  by_cases e:i=c
  ·rw [AHi e,AHi e]
   exact self
  ·rw [AHh e,AHh e]
   exact (other _ _ (h.lv i hi) (h.apart c i hc hi (λq=>e q.symm))).1
 ·simp at hi hj
  rw [E6 V c i v' nv (by omega),E6 V c j v' nv (by omega)]
  by_cases e:i=c
  ·subst e
   rw [AHi rfl,AHh (λq=>hn q.symm)]
   exact (other _ _ (h.lv j hj) (h.apart i j hc hj hn)).2
  ·rw [AHh e]
   by_cases e2:j=c
   ·subst e2
    rw [AHi rfl]
    exact ((other _ _ (h.lv i hi) (h.apart j i hc hi (λq=>e q.symm))).2).symm
   ·rw [AHh e2]
    exact h.apart i j hi hj hn
def Ls.AA {B:Nat} {S:List Nat} {w w':World} {V:List Value} {K:List (List Int)} (h:Ls w V K) (f:Fr B S w w') (hB:w.heap.size<=B) (hS:∀ i,i<K.length->∀ g∈vb (V.getD i nv),g∉S):Ls w' V K:=
 ⟨h.len,λi hi=>(h.lv i hi).AA f hB (hS i hi),h.apart⟩
def Ls.heap {w w1:World} {V:List Value} {K:List (List Int)} (h:Ls w V K) (e:w1.heap=w.heap):Ls w1 V K:=⟨h.len,λi hi=>(h.lv i hi).heap e,h.apart⟩
def Ls.append (h:Ls w V K) {c:Nat} (hc:c<K.length) (a:LR w (V.getD c nv) (K.getD c []) y v' w'):Ls w' (V.set c v') (K.set c (K.getD c []++[y])):=
 h.turn hc (fG (h.lv c hc) a) λ_ _ k p=>ZT (h.lv c hc) a k p
def Ls.cut (h:Ls w V K) {c:Nat} (hc:c<K.length) (e:V.getD c nv=.slice (some ⟨g,off,none⟩) n cap) {off' n' cap':Nat} 
 (h1:off<=off') (h2:off'+cap'<=off+cap) (self:Lv w (.slice (some ⟨g,off',none⟩) n' cap') l'):Ls w (V.set c (.slice (some ⟨g,off',none⟩) n' cap')) (K.set c l'):=
 h.turn hc self λu ys k p=>⟨k,λg3 off3 n3 cap3 g4 off4 n4 cap4 e1 e2=>by
  simp only [Value.slice.injEq,AEB,Addr.mk.injEq] at e1
  obtain ⟨⟨rfl,rfl,_⟩,_,rfl⟩:=e1
  rcases p _ _ _ _ _ _ _ _ e e2 with q | q | q
  ·exact Or.inl q
  ·exact Or.inr (Or.inl (by omega))
  ·exact Or.inr (Or.inr (by omega))⟩
structure St (tS:TypeId) (w:World) (b pb lb n:Nat) (V:List Value) (K:List (List Int)):Prop where
 sb:AB w b [.pointer (some ⟨pb,0,none⟩),.slice (some ⟨lb,0,none⟩) n n] tS
 sl:AB w lb V 122
 ls:Ls w V K
 kn:K.length=n
 n1:1<=n
 n2:n<=64
def bl (V:List Value):List Nat:=V.flatMap vb
def BD (h:g∈vb (V.getD i nv)):g∈bl V:=by
 rw [ADY] at h
 cases e:V[i]? with
 | none=>rw [e] at h;simp [nv,vb] at h
 | some v=>
  rw [e] at h
  exact AEX.2 ⟨v,AFI e,h⟩
def GO (h:g∈bl V):∃ i,i<V.length/\g∈vb (V.getD i nv):=by
 obtain ⟨v,hv,hg⟩:=AEX.1 h
 obtain ⟨i,hi,e⟩:=AEe.1 hv
 refine ⟨i,hi,?_⟩
 rw [ADY,ADZ hi,AEc,e]
 exact hg
def D9 {c:Nat} (hS:∀ g∈vb v,g∈S) (h:g∈bl (V.set c v)):g∈bl V\/g∈S:=by
 obtain ⟨u,hu,hg⟩:=AEX.1 h
 rcases AE9 hu with q | q
 ·exact Or.inl (AEX.2 ⟨u,q,hg⟩)
 ·subst q
  exact Or.inr (hS g hg)
def St.c0 (h:St tS w b pb lb n V K):w.cell? ⟨b,0,none⟩=some (.pointer (some ⟨pb,0,none⟩)):=h.sb.cell 0
def St.c1 (h:St tS w b pb lb n V K):w.cell? ⟨b,1,none⟩=some (.slice (some ⟨lb,0,none⟩) n n):=h.sb.cell 1
def St.vl (h:St tS w b pb lb n V K):V.length=n:=h.ls.len.trans h.kn
def St.cv (h:St tS w b pb lb n V K) (hi:i<n):w.cell? ⟨lb,i,none⟩=some (V.getD i nv):=by
 rw [h.sl.cell,ADY,ADZ (by rw [h.vl];exact hi)]
 rfl
def St.lv {tS:TypeId} {w:World} {b pb lb n:Nat} {V:List Value} {K:List (List Int)} (h:St tS w b pb lb n V K) {i:Nat} (hi:i<n):Lv w (V.getD i nv) (K.getD i []):=h.ls.lv i (by rw [h.kn];exact hi)
def St.heap {tS:TypeId} {w w1:World} {b pb lb n:Nat} {V:List Value} {K:List (List Int)} (h:St tS w b pb lb n V K) (e:w1.heap=w.heap):St tS w1 b pb lb n V K:=⟨h.sb.heap e,h.sl.heap e,h.ls.heap e,h.kn,h.n1,h.n2⟩
def St.AA {tS:TypeId} {B:Nat} {S:List Nat} {w w':World} {b pb lb n:Nat} {V:List Value} {K:List (List Int)} (h:St tS w b pb lb n V K) (f:Fr B S w w') (hB:w.heap.size<=B) (h1:b∉S) (h2:lb∉S) (h3:∀ g∈bl V,g∉S):St tS w' b pb lb n V K:=
 ⟨h.sb.AA f (AD7 h.sb.lt hB) h1,h.sl.AA f (AD7 h.sl.lt hB) h2,h.ls.AA f hB λ_ _ g hg=>h3 g (BD hg),h.kn,h.n1,h.n2⟩
def St.not {tS:TypeId} {w:World} {b pb lb n:Nat} {V:List Value} {K:List (List Int)} (h:St tS w b pb lb n V K) {k:Nat} {cs:List Value} {t:TypeId} (q:AB w k cs t) (ht:t≠3):k∉bl V:=λhm=>by
 obtain ⟨i,hi,hg⟩:=GO hm
 exact (h.lv (by rw [<- h.vl];exact hi)).not q ht hg
def St.Gp (h:St tS w b pb lb n V K) (hg:g∈bl V):g<w.heap.size:=by
 obtain ⟨i,hi,hm⟩:=GO hg
 exact (h.lv (by rw [<- h.vl];exact hi)).lt g hm
def St.store (h:St tS w b pb lb n V K) (ht:tS≠3) (ht2:tS≠122) (f:Fr w.heap.size S w w1) (hS:∀ g∈S,g∈bl V) {c:Nat} 
 (ls:Ls w1 (V.set c v') (K.set c l')):St tS (w1.setCell ⟨lb,c,none⟩ v') b pb lb n (V.set c v') (K.set c l'):=by
 have nb:b∉S:=λe=>h.not h.sb ht (hS b e)
 have nl:lb∉S:=λe=>h.not h.sl (by decide) (hS lb e)
 have s1:=h.sb.AA f h.sb.lt nb
 have s2:=h.sl.AA f h.sl.lt nl
 refine ⟨s1.other (s1.ne s2 ht2) _,s2.set c v',?_,by simp [h.kn],h.n1,h.n2⟩
 refine ls.AA ((Fr.refl w1.heap.size [lb] w1).setCell (Or.inr (by simp)) v') (ADW _) λi hi g hg=>?_
 have:=(ls.lv i hi).not s2 (by decide)
 simp
 intro e
 subst e
 exact this hg
def St.Ea {T:List Nat} (f:Fr w.heap.size S w w1) (hS:∀ g∈S,g∈T) (lb c:Nat) (v:Value):Fr w.heap.size (lb::T) w (w1.setCell ⟨lb,c,none⟩ v):=
 (f.mono (ADW _) (λk _ hk hs=>hk (ADV _ (hS k hs)))).setCell (Or.inr (by simp)) v
end Go.Proofs.YtdlhlfpigcgapaaGreatDoor.Sta
namespace Go.Proofs.YtdlhlfpigcgapaaGreatDoor.Hm
open Sta
open Om
variable {K:List (List Int)} {A:List Nat} {s:List Nat×List Int} {c m n:Nat} {x:Int}
def ks (K:List (List Int)) (i:Nat):List Int:=K.getD i []
def AW (n:Nat) (c:Int):Bool:=decide (0<=c/\c<n)
def kp (K:List (List Int)) (x:Int):Bool:=K.any λl=>decide (x∈l)
def hs (m:Nat) (A:List Nat) (K:List (List Int)) (x:Int):Bool:=ou m A x&&!kp K x
def f1 (m:Nat) (s:List Nat×List Int):List Nat×List Int:=if Bg m s.1=0 then (Cx m s.1,s.2++[DW m s.1]) else s
def fk (m:Nat) (s:List Nat×List Int):Nat->List Nat×List Int
 | 0=>s
 | k+1=>f1 m (fk m s k)
def al (m:Nat) (A:List Nat) (l:List Int):List Nat×List Int:=if l=[] then fk m (A,l) 2 else (A,l)
def SK (m n:Nat) (A:List Nat) (K:List (List Int)) (c:Int):Int:=if AW n c=true then if (al m A (ks K c.toNat)).2=[] then 5 else 0 else 3
def SM (m n:Nat) (A:List Nat) (K:List (List Int)) (c:Int):Int:=if AW n c=true then (al m A (ks K c.toNat)).2.getLastD 0 else 0
def Pw (m n:Nat) (A:List Nat) (K:List (List Int)) (c:Int):List Nat:=if AW n c=true then (al m A (ks K c.toNat)).1 else A
def LS (m n:Nat) (A:List Nat) (K:List (List Int)) (c:Int):List (List Int):=if AW n c=true then K.set c.toNat (al m A (ks K c.toNat)).2.dropLast else K
def Dq (m:Nat) (A:List Nat) (xs:List Int):List Nat:=xs.foldl (FY m) A
def gs (m:Nat) (A:List Nat) (l:List Int):List Nat×List Int:=if l.length=4 then (Dq m A (l.take 2),l.drop 2) else (A,l)
def NK (m n:Nat) (A:List Nat) (K:List (List Int)) (c x:Int):Int:=if AW n c=true then if hs m A K x=true then 0 else 4 else 3
def LU (m n:Nat) (A:List Nat) (K:List (List Int)) (c x:Int):List Nat:=if AW n c=true then if hs m A K x=true then (gs m A (ks K c.toNat)).1 else A else A
def JL (m n:Nat) (A:List Nat) (K:List (List Int)) (c x:Int):List (List Int):=if AW n c=true then if hs m A K x=true then K.set c.toNat ((gs m A (ks K c.toNat)).2++[x]) else K else K
def VD (n:Nat) (K:List (List Int)) (c:Int):Int:=if AW n c=true then ((ks K c.toNat).length:Int) else 0
def EO (n:Nat) (c:Int):Int:=if AW n c=true then 0 else 3
def Px (m n:Nat) (A:List Nat) (K:List (List Int)) (c:Int):List Nat:=if AW n c=true then Dq m A (ks K c.toNat) else A
def H' (n:Nat) (K:List (List Int)) (c:Int):List (List Int):=if AW n c=true then K.set c.toNat [] else K
def By {c:Int} (h:AW n c=true):0<=c/\c<n:=of_decide_eq_true h
def kY (h:kp K x=false) (i:Nat):x∉ks K i:=by
 intro hm
 unfold ks at hm
 rw [ADY] at hm
 cases e:K[i]? with
 | none=>rw [e] at hm;simp at hm
 | some l=>
  rw [e] at hm
  have:kp K x=true:=List.any_eq_true.2 ⟨l,AFI e,by simpa using hm⟩
  rw [h] at this
  cases this
def xB {i:Nat} (h:x∈ks K i):kp K x=true:=by
 cases e:kp K x with
 | true=>rfl
 | false=>exact absurd h (kY e i)
def ABi (h:kp K x=true):∃ i,i<K.length/\x∈ks K i:=by
 obtain ⟨l,hl,hx⟩:=List.any_eq_true.1 h
 obtain ⟨i,hi,e⟩:=AEe.1 hl
 refine ⟨i,hi,?_⟩
 unfold ks
 rw [ADY,ADZ hi,AEc,e]
 simpa using hx
def BE (K:List (List Int)) (c i:Nat) (l:List Int) (hc:c<K.length):ks (K.set c l) i=if i=c then l else ks K i:=E6 K c i l [] hc
def SN (h:Bg m A=0):∃ p,nx m A=some p:=by
 unfold Bg at h
 cases e:nx m A with
 | some p=>exact ⟨p,rfl⟩
 | none=>rw [e] at h;simp at h
def oV (h:Pg m A) (e:Bg m A=0) (x:Int):ou m (Cx m A) x=(decide (x=DW m A) || ou m A x):=by
 obtain ⟨p,hp⟩:=SN e
 obtain ⟨hpm,hx⟩:=Cp h hp
 have hl:=Qh _ hx
 have n1:DW m A=((8*p+lz (A.getD p 0)+1:Nat):Int):=by unfold DW;rw [hp];simp;omega
 have a1:Cx m A=A.set p (sb (A.getD p 0) (lz (A.getD p 0)) true):=by unfold Cx;rw [hp]
 have b:=NJ h (8*p+lz (A.getD p 0)) (by omega) true
 rw [show (8*p+lz (A.getD p 0)) / 8=p by omega,show (8*p+lz (A.getD p 0)) % 8=lz (A.getD p 0) by omega,<- a1] at b
 unfold ou
 by_cases r:1<=x/\x<=8*m
 ·rw [AHj r,AEC,AEC,b]
  by_cases q:x=DW m A
  ·rw [AHi (by omega),AHj q]
   rfl
  ·rw [AHh (by omega),AHk q]
   rfl
 ·rw [AHk r]
  have:x≠DW m A:=by
   have:=Pu h hp
   omega
  rw [AHk this]
  rfl
def oZ (h:Pg m A) (y x:Int):ou m (FY m A y) x=(decide (x≠y)&&ou m A x):=by
 cases o:ou m A y with
 | false=>
  rw [show FY m A y=A by unfold FY;rw [o];rfl]
  by_cases q:x=y
  ·subst q
   rw [o]
   simp
  ·rw [AHj q]
   rfl
 | true=>
  have hy:1<=y/\y<=8*m:=by
   unfold ou at o
   rw [ADe] at o
   exact of_decide_eq_true o.1
  have b:=NJ h (y-1).toNat (by omega) false
  rw [show FY m A y=A.set ((y-1).toNat / 8) (sb (A.getD ((y-1).toNat / 8) 0) ((y-1).toNat % 8) false) by unfold FY;rw [o];rfl]
  unfold ou
  by_cases r:1<=x/\x<=8*m
  ·rw [AHj r,AEC,AEC,b]
   by_cases q:x=y
   ·subst q
    simp
   ·rw [AHh (by omega),AHj q]
    rfl
  ·rw [AHk r]
   simp
def SO {m:Nat}:∀ (xs:List Int) {A:List Nat},Pg m A->Pg m (Dq m A xs)
 | [],_,h=>h
 | x::t,_,h=>SO t (VC h x)
def NL {m:Nat}:∀ (xs:List Int) {A:List Nat} (_:Pg m A) (x:Int),ou m (Dq m A xs) x=(decide (x∉xs)&&ou m A x)
 | [],A,h,x=>by simp [Dq]
 | y::t,A,h,x=>by
  show ou m (Dq m (FY m A y) t) x=_
  rw [NL t (VC h y) x,oZ h]
  by_cases q:x=y
  ·simp [q]
  ·by_cases r:x∈t <;> simp [q,r]
def fH (m:Nat) (A:List Nat) (xs:List Int) (y:Int):Dq m A (xs++[y])=FY m (Dq m A xs) y:=by
 unfold Dq
 rw [AFE]
 rfl
structure Kv (m:Nat) (A:List Nat) (K:List (List Int)):Prop where
 pg:Pg m A
 kl:∀ i,(ks K i).length<=4
 nd:∀ i,(ks K i).Nodup
 ap:∀ i j x,i≠j->x∈ks K i->x∉ks K j
 ou:∀ i x,x∈ks K i->ou m A x=true
def Kv.turn {A2:List Nat} (h:Kv m A K) (hc:c<K.length) {l:List Int} (pg:Pg m A2) (hl:l.length<=4) (nd:l.Nodup)
 (ap:∀ j x,j≠c->x∈l->x∉ks K j) (o1:∀ x∈l,Om.ou m A2 x=true) (o2:∀ j x,j≠c->x∈ks K j->Om.ou m A2 x=true):Kv m A2 (K.set c l):=by
 refine ⟨pg,λi=>?_,λi=>?_,λi j x hn hx=>?_,λi x hx=>?_⟩
 ·rw [BE K c i l hc]
  by_cases e:i=c
  ·rw [AHi e];exact hl
  ·rw [AHh e];exact h.kl i
 ·rw [BE K c i l hc]
  by_cases e:i=c
  ·rw [AHi e];exact nd
  ·rw [AHh e];exact h.nd i
 ·rw [BE K c i l hc] at hx
  rw [BE K c j l hc]
  by_cases e:i=c
  ·rw [AHi e] at hx
   rw [AHh (by omega)]
   exact ap j x (by omega) hx
  ·rw [AHh e] at hx
   by_cases e2:j=c
   ·rw [AHi e2]
    exact λq=>ap i x e q hx
   ·rw [AHh e2]
    exact h.ap i j x hn hx
 ·rw [BE K c i l hc] at hx
  by_cases e:i=c
  ·rw [AHi e] at hx
   exact o1 x hx
  ·rw [AHh e] at hx
   exact o2 i x e hx
structure Fk (m:Nat) (A:List Nat) (K:List (List Int)) (c:Nat) (s:List Nat×List Int):Prop where
 pg:Pg m s.1
 nd:s.2.Nodup
 ap:∀ j x,j≠c->x∈s.2->x∉ks K j
 o1:∀ x∈s.2,Om.ou m s.1 x=true
 o2:∀ x,Om.ou m A x=true->Om.ou m s.1 x=true
def Fk.one (hK:Kv m A K) (h:Fk m A K c s):Fk m A K c (f1 m s):=by
 unfold f1
 by_cases e:Bg m s.1=0
 ·rw [AHi e]
  obtain ⟨p,hp⟩:=SN e
  have o:=(Pu h.pg hp).2.2.1
  have hou:=oV h.pg e
  refine ⟨oO h.pg,?_,λj x hj hx=>?_,λx hx=>?_,λx hx=>?_⟩
  ·rw [AFF]
   refine ⟨h.nd,by simp,λa ha b hb=>?_⟩
   simp at hb
   subst hb
   intro q
   subst q
   rw [h.o1 _ ha] at o
   cases o
  ·rcases ADi.1 hx with q | q
   ·exact h.ap j x hj q
   ·simp at q
    subst q
    intro r
    rw [h.o2 _ (hK.ou j _ r)] at o
    cases o
  ·show Om.ou m (Cx m s.1) x=true
   rw [hou]
   rcases ADi.1 hx with q | q
   ·rw [h.o1 x q];simp
   ·simp at q
    rw [AHj q];rfl
  ·show Om.ou m (Cx m s.1) x=true
   rw [hou,h.o2 x hx]
   simp
 ·rw [AHh e]
  exact h
def Js:(f1 m s).2.length<=s.2.length+1:=by
 unfold f1
 by_cases e:Bg m s.1=0
 ·rw [AHi e];simp
 ·rw [AHh e];omega
def Kv.fk0 (h:Kv m A K) (c:Nat):Fk m A K c (A,ks K c):=
 ⟨h.pg,h.nd c,λj x hj hx=>h.ap c j x (λq=>hj q.symm) hx,λx hx=>h.ou c x hx,λ_ hx=>hx⟩
def Kv.al {m:Nat} {A:List Nat} {K:List (List Int)} (h:Kv m A K) (c:Nat):Fk m A K c (al m A (ks K c))/\(al m A (ks K c)).2.length<=4:=by
 unfold Hm.al
 have k0:=h.fk0 c
 by_cases e:ks K c=[]
 ·rw [AHi e]
  refine ⟨((k0.one h).one h),?_⟩
  show (f1 m (f1 m (A,ks K c))).2.length<=4
  have h1:=Js (m:=m) (s:=f1 m (A,ks K c))
  have h2:=Js (m:=m) (s:=(A,ks K c))
  rw [e] at h1 h2 ⊢
  simp at h2
  omega
 ·rw [AHh e]
  exact ⟨k0,h.kl c⟩
def fI (h:Kv m A K) (hn:K.length=n) (c:Int):Kv m (Pw m n A K c) (LS m n A K c):=by
 unfold Pw LS
 by_cases i:AW n c=true
 ·rw [AHi i,AHi i]
  have:=By i
  obtain ⟨k,hl⟩:=h.al c.toNat
  have sub:∀ x,x∈(al m A (ks K c.toNat)).2.dropLast->x∈(al m A (ks K c.toNat)).2:=λx hx=>List.dropLast_subset _ hx
  exact h.turn (by omega) k.pg (by simp;omega) (k.nd.sublist (List.dropLast_sublist _)) (λj x hj hx=>k.ap j x hj (sub x hx)) (λx hx=>k.o1 x (sub x hx)) (λj x _ hx=>k.o2 x (h.ou j x hx))
 ·rw [AHh i,AHh i]
  exact h
def pA (h:Kv m A K) (hn:K.length=n) (c x:Int):Kv m (LU m n A K c x) (JL m n A K c x):=by
 unfold LU JL
 by_cases i:AW n c=true
 ·rw [AHi i,AHi i]
  by_cases q:hs m A K x=true
  ·rw [AHi q,AHi q]
   have:=By i
   unfold hs at q
   rw [ADe] at q
   obtain ⟨q1,q2⟩:=q
   have q3:kp K x=false:=by simpa using q2
   have nk:=kY q3
   have h4:=h.kl c.toNat
   unfold gs
   by_cases f:(ks K c.toNat).length=4
   ·rw [AHi f]
    have sub:∀ y,y∈(ks K c.toNat).drop 2->y∈ks K c.toNat:=λy hy=>AFp hy
    have tsub:∀ y,y∈(ks K c.toNat).take 2->y∈ks K c.toNat:=λy hy=>AFZ hy
    have dis:∀ y,y∈(ks K c.toNat).drop 2->y∉(ks K c.toNat).take 2:=λy hy ht=>by
     have nd:=h.nd c.toNat
     rw [<- AFC 2 (ks K c.toNat),AFF] at nd
     exact nd.2.2 y ht y hy rfl
    refine h.turn (by omega) (SO _ h.pg) (by simp;omega) ?_ (λj y hj hy=>?_) (λy hy=>?_) (λj y hj hy=>?_)
    ·rw [AFF]
     refine ⟨(h.nd c.toNat).sublist (List.drop_sublist _ _),by simp,λa ha b hb=>?_⟩
     simp at hb
     subst hb
     exact λe=>nk c.toNat (e ▸ sub a ha)
    ·rcases ADi.1 hy with r | r
     ·exact h.ap c.toNat j y (λe=>hj e.symm) (sub y r)
     ·simp at r
      subst r
      exact nk j
    ·rw [NL _ h.pg]
     rcases ADi.1 hy with r | r
     ·rw [AHj (dis y r),h.ou _ y (sub y r)];rfl
     ·simp at r
      subst r
      rw [AHj (show ¬ y∈(ks K c.toNat).take 2 from λe=>nk c.toNat (tsub y e)),q1];rfl
    ·rw [NL _ h.pg,AHj (show ¬ y∈(ks K c.toNat).take 2 from λe=>h.ap c.toNat j y (λe=>hj e.symm) (tsub y e) hy),h.ou j y hy];rfl
   ·rw [AHh f]
    refine h.turn (by omega) h.pg (by simp;omega) ?_ (λj y hj hy=>?_) (λy hy=>?_) (λj y hj hy=>h.ou j y hy)
    ·rw [AFF]
     refine ⟨h.nd c.toNat,by simp,λa ha b hb=>?_⟩
     simp at hb
     subst hb
     exact λe=>nk c.toNat (e ▸ ha)
    ·rcases ADi.1 hy with r | r
     ·exact h.ap c.toNat j y (λe=>hj e.symm) r
     ·simp at r
      subst r
      exact nk j
    ·rcases ADi.1 hy with r | r
     ·exact h.ou _ y r
     ·simp at r
      subst r
      exact q1
  ·rw [AHh q,AHh q]
   exact h
 ·rw [AHh i,AHh i]
  exact h
def fJ (h:Kv m A K) (hn:K.length=n) (c:Int):Kv m (Px m n A K c) (H' n K c):=by
 unfold Px H'
 by_cases i:AW n c=true
 ·rw [AHi i,AHi i]
  have:=By i
  refine h.turn (by omega) (SO _ h.pg) (by simp) List.nodup_nil (λj y _ hy=>by simp at hy) (λy hy=>by simp at hy) (λj y hj hy=>?_)
  rw [NL _ h.pg,AHj (show ¬ y∈ks K c.toNat from λe=>h.ap c.toNat j y (λe=>hj e.symm) e hy),h.ou j y hy];rfl
 ·rw [AHh i,AHh i]
  exact h
def xC (m n:Nat) (h:Pg m (List.replicate 12 0)):Kv m (List.replicate 12 0) (List.replicate n []):=by
 have e:∀ i,ks (List.replicate n []) i=[]:=λi=>by
  unfold ks
  rw [ADY,AEA]
  split <;> rfl
 exact ⟨h,λi=>by rw [e];simp,λi=>by rw [e];exact List.nodup_nil,λi j x _ hx=>by rw [e] at hx;simp at hx,λi x hx=>by rw [e] at hx;simp at hx⟩
end Go.Proofs.YtdlhlfpigcgapaaGreatDoor.Hm
namespace Go.Proofs.YtdlhlfpigcgapaaGreatDoor.Sta
open Go.ChangeShapes Go.WideShapes Go.ChangeAt Go.RowKit
open Om Hm
variable {K K':List (List Int)} {V cur:List Value} {A A' A2 S:List Nat} {w w' w1 w2 wr:World} {s:List Nat×List Int} {xs:List Int} {b c cap g k lb m n off pb:Nat} {α:Type}
structure SH (w:World) (b pb lb n m:Nat) (A:List Nat) (V:List Value) (K:List (List Int)):Prop where
 st:St 179 w b pb lb n V K
 po:PO w pb m A
def SH.heap {w w1:World} {b pb lb n m:Nat} {A:List Nat} {V:List Value} {K:List (List Int)} (h:SH w b pb lb n m A V K) (e:w1.heap=w.heap):SH w1 b pb lb n m A V K:=⟨h.st.heap e,h.po.heap e⟩
def SH.AA {B:Nat} {S:List Nat} {w w':World} {b pb lb n m:Nat} {A:List Nat} {V:List Value} {K:List (List Int)} (h:SH w b pb lb n m A V K) (f:Fr B S w w') (hB:w.heap.size<=B) (h0:pb∉S) (h1:b∉S) (h2:lb∉S) (h3:∀ g∈bl V,g∉S):SH w' b pb lb n m A V K:=
 ⟨h.st.AA f hB h1 h2 h3,h.po.AA f (AD7 h.po.sb.lt hB) h0⟩
def SH.On (h:SH w b pb lb n m A V K) (p:PO w' pb m A2) (f:Fr w.heap.size [pb] w w'):SH w' b pb lb n m A2 V K:=by
 have n1:=h.st.sb.ne h.po.sb (by decide)
 have n2:=h.st.sl.ne h.po.sb (by decide)
 have n3:=h.st.not h.po.sb (by decide)
 exact ⟨h.st.AA f (ADW _) (by simpa using n1) (by simpa using n2) (λg hg=>by simp;exact λe=>n3 (e ▸ hg)),p⟩
structure SC (w w':World) (b pb lb n m:Nat) (V:List Value) (A':List Nat) (K':List (List Int)):Prop where
 ex:∃ V',SH w' b pb lb n m A' V' K'/\∀ g∈bl V',g∈bl V\/w.heap.size<=g
 fr:Fr w.heap.size (lb::pb::bl V) w w'
def SC.refl {w:World} {b pb lb n m:Nat} {A:List Nat} {V:List Value} {K:List (List Int)} (h:SH w b pb lb n m A V K):SC w w b pb lb n m V A K:=⟨⟨V,h,λ_ hg=>Or.inl hg⟩,Fr.refl _ _ _⟩
def SC.sm (h:SC w w' b pb lb n m V A' K') (e:Sm w2 w'):SC w w2 b pb lb n m V A' K':=by
 obtain ⟨V',h1,h2⟩:=h.ex
 obtain ⟨e1,e2,e3,e4⟩:=e
 have f:=h.fr
 exact ⟨⟨V',h1.heap e1,h2⟩,e2.trans f.os,e3.trans f.tape,e4.trans f.output,by rw [e1];exact f.size,λk hk hs=>by rw [e1];exact f.block k hk hs⟩
def SC.from (e:Sm w1 w) (h:SC w1 w' b pb lb n m V A' K'):SC w w' b pb lb n m V A' K':=by
 obtain ⟨V',h1,h2⟩:=h.ex
 exact ⟨⟨V',h1,by rw [<- e.1];exact h2⟩,by rw [<- e.1];exact e.fr h.fr⟩
def SC.trans {w w1 w2:World} {b pb lb n m:Nat} {V V1:List Value} {A2:List Nat} {K2:List (List Int)} (f:Fr w.heap.size (lb::pb::bl V) w w1) (hV:∀ g∈bl V1,g∈bl V\/w.heap.size<=g) (k:SC w1 w2 b pb lb n m V1 A2 K2):SC w w2 b pb lb n m V A2 K2:=by
 obtain ⟨V2,h1,h2⟩:=k.ex
 have hz:=f.size
 refine ⟨⟨V2,h1,λg hg=>?_⟩,f.trans (k.fr.mono hz λq hq hs hm=>?_)⟩
 ·rcases h2 g hg with r | r
  ·exact hV g r
  ·exact Or.inr (by omega)
 ·simp only [AD0] at hs hm
  rcases hm with r | r | r
  ·exact hs (Or.inl r)
  ·exact hs (Or.inr (Or.inl r))
  ·rcases hV q r with t | t
   ·exact hs (Or.inr (Or.inr t))
   ·omega
def SH.append {w:World} {b pb lb n m:Nat} {A:List Nat} {V:List Value} {K:List (List Int)} (h:SH w b pb lb n m A V K) {c:Nat} {y:Int} (hc:c<n) :
 ∀ (o:Obj) (wA:World),Sm wA (w.alloc o)->∀ (v2:Value) (w2:World),LR wA (V.getD c nv) (K.getD c []) y v2 w2->
  (w2.cell? ⟨b,1,none⟩=some (.slice (some ⟨lb,0,none⟩) n n)/\w2.cell? ⟨lb,c,none⟩=some (V.getD c nv)/\w2.frozen? ⟨lb,c,none⟩=false)/\∀ w3:World,Sm w3 w2->SC w (w3.setCell ⟨lb,c,none⟩ v2) b pb lb n m V A (K.set c (K.getD c []++[y])):=by
 intro o wA e v2 w2 hA
 have fb:Fr w.heap.size [] w (w.alloc o):=(Fr.refl _ _ _).alloc (ADW _) o
 have fa:Fr w.heap.size [] w wA:=⟨e.2.1.trans fb.os,e.2.2.1.trans fb.tape,e.2.2.2.trans fb.output,by rw [e.1];exact fb.size,λk hk hs=>by rw [e.1];exact fb.block k hk hs⟩
 have h2:=h.AA fa (ADW _) (by simp) (by simp) (by simp) (by simp)
 have ls:=h2.st.ls.append (c:=c) (by rw [h.st.kn];exact hc) hA
 obtain ⟨f1,g1⟩:=xA hA
 have nb:b∉vb (V.getD c nv):=(h2.st.lv hc).not h2.st.sb (by decide)
 have nl:lb∉vb (V.getD c nv):=(h2.st.lv hc).not h2.st.sl (by decide)
 have np:pb∉vb (V.getD c nv):=(h2.st.lv hc).not h2.po.sb (by decide)
 have s1:=h2.st.sb.AA f1 h2.st.sb.lt nb
 have s2:=h2.st.sl.AA f1 h2.st.sl.lt nl
 refine ⟨⟨s1.cell 1,(f1.cell (p:=⟨lb,c,none⟩) h2.st.sl.lt nl).trans (h2.st.cv hc),s2.free c⟩,λw3 e3=>?_⟩
 have f2:Fr w.heap.size (vb (V.getD c nv)) w w2:=(fa.mono (ADW _) (by simp)).trans (f1.less fa.size)
 have f3:Fr w.heap.size (vb (V.getD c nv)) w w3:=⟨e3.2.1.trans f2.os,e3.2.2.1.trans f2.tape,e3.2.2.2.trans f2.output,by rw [e3.1];exact f2.size,λk hk hs=>by rw [e3.1];exact f2.block k hk hs⟩
 have hv:∀ g∈vb (V.getD c nv),g∈bl V:=λg hg=>BD hg
 have st:=h.st.store (by decide) (by decide) f3 hv (ls.heap e3.1)
 refine ⟨⟨_,⟨st,?_⟩,λg hg=>?_⟩,(St.Ea f3 hv lb c v2).mono (ADW _) λk _ hk hm=>?_⟩
 ·have p3:=h.po.AA f3 h.po.sb.lt np
  exact p3.AA ((Fr.refl w3.heap.size [lb] w3).setCell (Or.inr (by simp)) v2) p3.sb.lt (by simp;exact λq=>(h.po.sb.ne h.st.sl (by decide)) q)
 ·rcases D9 (S:=vb v2) (λ_ q=>q) hg with q | q
  ·exact Or.inl q
  ·rcases g1 g q with r | r
   ·exact Or.inl (hv g r)
   ·exact Or.inr (ADd fa.size r)
 ·simp only [AD0] at hk hm
  rcases hm with r | r
  ·exact hk (Or.inl r)
  ·exact hk (Or.inr (Or.inr r))
def SH.beside (h:SH w b pb lb n m A V K) (hc:c<n):∀ (o:Obj) (wA:World),Sm wA (w.alloc o)->Lv wA (V.getD c nv) (K.getD c []):=λo wA e=>
 ((h.st.lv hc).AA ((Fr.refl w.heap.size [] w).alloc (ADW _) o) (ADW _) (by simp)).heap e.1
def BR (c:Int) (w:World) (h:SH w b pb lb n m A V K):
 Calls Tryz.prog 105 #[.pointer (some ⟨b,0,none⟩),.int .i64 c] w λe w'=>e=.returned (.bool (AW n c))/\w'=w:=by
 have c1:=h.st.c1
 clear h
 by_cases l:0<=c
 ·by_cases l2:c<n
  ·rw [show AW n c=true from AHj ⟨l,l2⟩]
   go_enter Tryz.func105,Tryz.ntmps105
   go_wp2
   go_ret
   exact ⟨rfl,rfl⟩
  ·rw [show AW n c=false from AHk (by omega)]
   go_enter Tryz.func105,Tryz.ntmps105
   go_wp2
   go_ret
   exact ⟨rfl,rfl⟩
 ·rw [show AW n c=false from AHk (by omega)]
  go_enter Tryz.func105,Tryz.ntmps105
  go_wp2
  go_ret
  exact ⟨rfl,rfl⟩
def pB (h:Bg m (fk m s k).1≠0):fk m s (k+1)=fk m s k:=by
 show f1 m (fk m s k)=_
 unfold f1
 rw [AHh h]
def ABj (h:Bg m (fk m s k).1=0):fk m s (k+1)=(Cx m (fk m s k).1,(fk m s k).2++[DW m (fk m s k).1]):=by
 show f1 m (fk m s k)=_
 unfold f1
 rw [AHi h]
def ZU (c:Nat) (w:World) (h:SH w b pb lb n m A V K) (hc:(c:Int)<n) (hl:(ks K c).length<=4):
 Calls Tryz.prog 284 #[.pointer (some ⟨b,0,none⟩),.int .i64 (c:Int)] w λe w'=>e=.returned (.tuple #[])/\SC w w' b pb lb n m V (fk m (A,ks K c) 2).1 (K.set c (fk m (A,ks K c) 2).2):=by
 obtain ⟨R,hR⟩:∃ R,fk m (A,ks K c) 2=R:=⟨_,rfl⟩
 have HR:Hid (fk m (A,ks K c) 2=R):=hR
 have hn:=h.st.kn
 have H0:Hid (SC w w b pb lb n m V (fk m (A,ks K c) 0).1 (K.set c (fk m (A,ks K c) 0).2)):=by
  have:K.set c (ks K c)=K:=by
   apply AEH
   intro i
   rw [AD6]
   by_cases e:c=i
   ·subst e
    have:c<K.length:=by omega
    unfold ks
    rw [AHi rfl,AHi this,ADY,ADZ this]
    rfl
   ·rw [AHh e]
  show SC w w b pb lb n m V A (K.set c (ks K c))
  rw [this]
  exact SC.refl h
 have KL:Hid (∀ k,k<=2->(fk m (A,ks K c) k).2.length<=4+k):=λk hk=>by
  induction k with
  | zero=>exact hl
  | succ k ih=>
   have:=ih (by omega)
   have:=Js (m:=m) (s:=fk m (A,ks K c) k)
   show (f1 m (fk m (A,ks K c) k)).2.length<=_
   omega
 have HN:Hid (K.length=n):=hn
 rw [hR]
 clear h hR hn hl
 go_enter Tryz.func284,Tryz.ntmps284
 go_wp2
 go_loopw [6] (λi wr=>∃ k:Nat,(k:Int)<=2/\i=.int .i64 k/\SC w wr b pb lb n m V (fk m (A,ks K c) k).1 (K.set c (fk m (A,ks K c) k).2)) (λi _=>2-(intOf i).toNat)
 case atStart=>exact ⟨0,by omega,rfl,H0.out⟩
 case round=>
  obtain ⟨k,hk,rfl,hs⟩:=hrel
  by_cases l:(k:Int)<2
  ·obtain ⟨V1,h1,hV1⟩:=hs.ex
   have F1:Hid (Fr w.heap.size (lb::pb::bl V) w wr/\∀ g∈bl V1,g∈bl V\/w.heap.size<=g):=⟨hs.fr,hV1⟩
   have C:Hid (∀ _:Unit,_):=λ_=>ZS wr h1.po
   have c0:=h1.st.c0
   have HH:Hid (SH wr b pb lb n m (fk m (A,ks K c) k).1 V1 (K.set c (fk m (A,ks K c) k).2)):=h1
   by_cases e:Bg m (fk m (A,ks K c) k).1=0
   ·rw [e] at C
    have fg:=ABj e
    obtain ⟨s1,hs1⟩:∃ s1,fk m (A,ks K c) k=s1:=⟨_,rfl⟩
    rw [hs1] at C HH fg
    have L1:Hid (s1.2.length<=6):=by have:=KL.out k (by omega);rw [hs1] at this;unfold Hid;omega
    have FG:Hid (fk m (A,ks K c) (k+1)=(Cx m s1.1,s1.2++[DW m s1.1])):=fg
    generalize DW m s1.1=y at *
    generalize Cx m s1.1=A2 at *
    clear hs h1 hV1 fg e hs1
    go_wp2_with fail
    refine (C.out ()).mono ?_
    rintro e u1 ⟨rfl,p1,f1⟩
    have h2:=HH.out.On p1 f1
    have d1:=h2.st.c1
    have dv:=h2.st.cv (i:=c) (by omega)
    have df:u1.frozen? ⟨lb,c,none⟩=false:=h2.st.sl.free c
    have H2:Hid (SH u1 b pb lb n m A2 V1 (K.set c s1.2)):=h2
    have F2:Hid (Fr wr.heap.size [pb] wr u1):=f1
    have KC:(K.set c s1.2).getD c []=s1.2:=by have:=BE K c c s1.2 (by have:=HN.out;omega);rw [AHi rfl] at this;exact this
    have LV:=h2.beside (c:=c) (by omega)
    rw [KC] at LV
    have LV:Hid (∀ (o:Obj) (wA:World),Sm wA (u1.alloc o)->Lv wA (V1.getD c nv) s1.2):=LV
    have FIN:=h2.append (c:=c) (y:=y) (by omega)
    rw [KC,List.set_set] at FIN
    have FF:Hid (∀ (o:Obj) (wA:World) (v2:Value) (w2:World),LR wA (V1.getD c nv) s1.2 y v2 w2->Sm wA (u1.alloc o)->(w2.cell? ⟨b,1,none⟩=some (.slice (some ⟨lb,0,none⟩) n n)/\w2.cell? ⟨lb,c,none⟩=some (V1.getD c nv)/\w2.frozen? ⟨lb,c,none⟩=false)/\∀ w3:World,Sm w3 w2->SC w (w3.setCell ⟨lb,c,none⟩ v2) b pb lb n m V A2 (K.set c (s1.2++[y]))):=λo wA v2 w2 hA e=>by
     obtain ⟨g1,g2⟩:=FIN o wA e v2 w2 hA
     refine ⟨g1,λw3 e3=>?_⟩
     have q:=g2 w3 e3
     refine SC.trans F1.out.1 F1.out.2 (SC.trans (V1:=V1) (F2.out.mono (ADW _) ?_) (λg hg=>Or.inl hg) q)
     intro k _ hk
     simp only [AD0] at hk
     simp only [ADu]
     exact λr=>hk (Or.inr (Or.inl r))
    have n1:¬ (b=lb):=h2.st.sb.ne h2.st.sl (by decide)
    have n2:¬ (lb=b):=λq=>n1 q.symm
    have z1:(u1.alloc (.cells #[.int .i64 y] 3)).cell? ⟨b,1,none⟩=some (.slice (some ⟨lb,0,none⟩) n n):=(h2.st.sb.alloc _).cell 1
    have z2:(u1.alloc (.cells #[.int .i64 y] 3)).cell? ⟨lb,c,none⟩=some (V1.getD c nv):=((h2.st.sl.alloc _).cell c).trans ((h2.st.sl.cell c).symm.trans (h2.st.cv (by omega)))
    clear FIN
    generalize hv:V1.getD c nv=v1 at *
    clear f1 p1 h2
    go_wp2_with fail
    go_region_law
     (first | (refine SJ (v:=v1) rfl (.tmp 29) (.tmp 31) rfl y rfl (LV.out _ _ ⟨rfl,rfl,rfl,rfl⟩) (by have:=L1.out;omega) _ _ rfl (((AB.new u1 [_] _).heap rfl).cell 0) ?_;intro v2 w2 hA;obtain ⟨x2,q2,rfl⟩:=Pv hA;obtain ⟨⟨a1,a2,a3⟩,a4⟩:=FF.out _ _ _ _ hA ⟨rfl,rfl,rfl,rfl⟩;have HA:Hid (∀ w3:World,Sm w3 w2->SC w (w3.setCell ⟨lb,c,none⟩ (.slice x2 (s1.2.length+1) q2)) b pb lb n m V A2 (K.set c (s1.2++[y]))):=a4;clear hA a4))
    all_goals go_wp2
    all_goals go_roundw
    all_goals first
     | exact ⟨k+1,by omega,by go_num,by rw [FG.out];exact HA.out _ ⟨rfl,rfl,rfl,rfl⟩⟩
     | (simp [intOf];omega)
   ·have e2:(Bg m (fk m (A,ks K c) k).1 !=0)=true:=by simpa using e
    have ta:Cx m (fk m (A,ks K c) k).1=(fk m (A,ks K c) k).1:=by
     unfold Cx
     unfold Bg at e
     cases q:nx m (fk m (A,ks K c) k).1 with
     | none=>rfl
     | some p=>rw [q] at e;simp at e
    rw [ta] at C
    have FR:Hid (fk m (A,ks K c) k=R):=by
     rw [<- HR.out]
     have s1:=pB e
     have:k=0\/k=1:=by omega
     rcases this with r | r
     ·subst r
      show _=f1 m (fk m (A,ks K c) 1)
      rw [s1]
      exact s1.symm
     ·subst r
      exact s1.symm
    rw [FR.out] at C HH e2
    clear hs h1 hV1 e ta
    generalize DW m R.1=y at *
    generalize Bg m R.1=ee at *
    go_wp2_with fail
    refine (C.out ()).mono ?_
    rintro e u1 ⟨rfl,p1,f1⟩
    have h2:=HH.out.On p1 f1
    have F2:Hid (SC w u1 b pb lb n m V R.1 (K.set c R.2)):=SC.trans F1.out.1 F1.out.2 ⟨⟨V1,h2,λ_ hg=>Or.inl hg⟩,f1.mono (ADW _) (λk _ hk=>by
     simp only [AD0] at hk
     simp only [ADu]
     exact λr=>hk (Or.inr (Or.inl r)))⟩
    clear h2 p1 f1
    go_wp2
    (try simp only [Exit.inBlock,Exit.then])
    refine bodyPost_ret (results_none rfl _ _ _) rfl ?_
    exact ⟨rfl,F2.out⟩
  ·obtain rfl:k=2:=by omega
   rw [HR.out] at hs
   have F2:Hid (SC w wr b pb lb n m V R.1 (K.set c R.2)):=hs
   clear hs
   go_wp2
   go_end0
   exact ⟨rfl,F2.out⟩
def ZV (xs:List Int) (x:Int) (h:x∈xs):∃ j,j<xs.length/\xs.getD j 0=x:=by
 obtain ⟨j,hj,e⟩:=AEe.1 h
 exact ⟨j,hj,by rw [ADY,ADZ hj];exact e⟩
def ZW (xs:List Int) (j:Nat) (h:j<xs.length):xs.getD j 0∈xs:=by
 rw [ADY,ADZ h]
 exact AEl h
def ZX (x:Int) (w:World) (h:SH w b pb lb n m A V K) (kl:∀ i,(ks K i).length<=4):
 Calls Tryz.prog 334 #[.pointer (some ⟨b,0,none⟩),.int .i64 x] w λe w'=>e=.returned (.bool (kp K x))/\w'=w:=by
 have c1:=h.st.c1
 have hn:(n:Int)<=64:=by have:=h.st.n2;omega
 have HV:Hid (∀ k:Nat,(k:Int)<n->w.cell? ⟨lb,k,none⟩=some (V.getD k nv)/\∃ a cap,V.getD k nv=.slice a (ks K k).length cap):=λk hk=>⟨h.st.cv (by omega),(h.st.lv (by omega)).shape⟩
 have HC:Hid (∀ (k:Nat) (a:Option Addr) (cap:Nat),(k:Int)<n->V.getD k nv=.slice a (ks K k).length cap->∀ j:Nat,(j:Int)<(ks K k).length->∃ g off,a=some ⟨g,off,none⟩/\w.cell? ⟨g,off+j,none⟩=some (.int .i64 ((ks K k).getD j 0))):=λk a cap hk e j hj=>by
  have r:=(h.st.lv (i:=k) (by omega)).row
  rw [e] at r
  exact cT r rfl (Below.refl _ _) hj
 have KL:Hid (∀ i,((ks K i).length:Int)<=4):=λi=>by have:=kl i;omega
 have KN:Hid (K.length=n):=h.st.kn
 obtain ⟨R,hR⟩:∃ R,kp K x=R:=⟨_,rfl⟩
 have HR:Hid (kp K x=R):=hR
 rw [hR]
 clear h hR kl
 go_enter Tryz.func334,Tryz.ntmps334
 go_wp2
 go_loop [14] (λi=>∃ k:Nat,(k:Int)<=n/\Hid (∀ j,j<k->x∉ks K j)/\i=.int .i64 k) (λi=>n-(intOf i).toNat)
 case atStart=>exact ⟨0,by omega,λj hj=>by omega,rfl⟩
 case round=>
  obtain ⟨k,hk,hN,rfl⟩:=hrel
  by_cases l:(k:Int)<n
  ·obtain ⟨cv,a,cap,hv⟩:=HV.out k l
   have CC:=HC.out k a cap l hv
   have HCC:Hid (∀ j:Nat,(j:Int)<(ks K k).length->∃ g off,a=some ⟨g,off,none⟩/\w.cell? ⟨g,off+j,none⟩=some (.int .i64 ((ks K k).getD j 0))):=CC
   have l4:=KL.out k
   rw [hv] at cv
   obtain ⟨xs,hxs⟩:∃ xs,ks K k=xs:=⟨_,rfl⟩
   have HX:Hid (ks K k=xs):=hxs
   rw [hxs] at cv HCC l4
   obtain ⟨q,hq⟩:∃ q,xs.length=q:=⟨_,rfl⟩
   have HQ:Hid (xs.length=q):=hq
   rw [hq] at cv HCC l4
   clear CC hv hxs hq
   go_wp2
   go_loop [20] (λi=>∃ j:Nat,(j:Int)<=q/\Hid (∀ t,t<j->xs.getD t 0≠x)/\i=.int .i64 j) (λi=>q-(intOf i).toNat)
   case atStart=>exact ⟨0,by omega,λj hj=>by omega,rfl⟩
   case round=>
    obtain ⟨j,hj,hM,rfl⟩:=hrel
    by_cases l2:(j:Int)<q
    ·obtain ⟨g,off,rfl,cc⟩:=HCC.out j l2
     by_cases e:xs.getD j 0=x
     ·have s:R=true:=by
       rw [<- HR.out]
       refine xB (i:=k) ?_
       rw [HX.out,<- e]
       exact ZW xs j (by have:=HQ.out;omega)
      subst s
      rw [e] at cc
      clear e
      go_wp2
      go_ret
      exact ⟨rfl,rfl⟩
     ·have s:Hid (∀ t,t<j+1->xs.getD t 0≠x):=λt ht=>by
       by_cases d:t=j
       ·subst d;exact e
       ·exact hM.out t (by omega)
      generalize xs.getD j 0=y at *
      have e2:(y==x)=false:=by simpa using e
      clear e
      go_wp2
      go_round
      case rel=>exact ⟨j+1,by omega,s,by go_num⟩
      case measure=>simp [intOf];omega
    ·have s:Hid (∀ t,t<k+1->x∉ks K t):=λt ht=>by
      by_cases d:t=k
      ·subst d
       rw [HX.out]
       intro hm
       obtain ⟨t,ht,e⟩:=ZV xs x hm
       exact hM.out t (by have:=HQ.out;omega) e
      ·exact hN.out t (by omega)
     go_wp2
     go_round
     case rel=>exact ⟨k+1,by omega,s,by go_num⟩
     case measure=>simp [intOf];omega
  ·have s:R=false:=by
    rw [<- HR.out]
    cases e:kp K x with
    | false=>rfl
    | true=>
     obtain ⟨i,hi,hm⟩:=ABi e
     exact absurd hm (hN.out i (by have:=KN.out;omega))
   subst s
   go_wp2
   go_ret
   exact ⟨rfl,rfl⟩
def fK (x:Int) (w:World) (h:SH w b pb lb n m A V K) (kl:∀ i,(ks K i).length<=4):
 Calls Tryz.prog 285 #[.pointer (some ⟨b,0,none⟩),.int .i64 x] w λe w'=>e=.returned (.bool (hs m A K x))/\∃ k,w'=w.drewN k:=by
 have c0:=h.st.c0
 have C:Hid (∀ _:Unit,_):=λ_=>SE x w h.po
 have D:Hid (∀ k:Nat,_):=λk=>ZX x (w.drewN k) (h.heap rfl) kl
 clear h kl
 unfold hs
 cases e:ou m A x with
 | false=>
  rw [e] at C
  rw [AEm]
  clear e
  go_enter Tryz.func285,Tryz.ntmps285
  go_wp2_with fail
  refine (C.out ()).mono ?_
  rintro e w' ⟨rfl,k,rfl⟩
  go_wp2
  go_ret
  exact ⟨rfl,_,rfl⟩
 | true=>
  rw [e] at C
  rw [AEC]
  generalize kp K x=y at *
  clear e
  go_enter Tryz.func285,Tryz.ntmps285
  go_wp2_with fail
  refine (C.out ()).mono ?_
  rintro e w' ⟨rfl,k,rfl⟩
  go_wp2_with fail
  refine (D.out k).mono ?_
  rintro e w' ⟨rfl,rfl⟩
  go_wp2
  go_ret
  exact ⟨rfl,_,rfl⟩
def ABk {B:Nat} {w3:World} (f:Fr B S w w2) (e:Sm w3 w2):Fr B S w w3:=
 ⟨e.2.1.trans f.os,e.2.2.1.trans f.tape,e.2.2.2.trans f.output,by rw [e.1];exact f.size,λk hk hs=>by rw [e.1];exact f.block k hk hs⟩
def SH.set (h:SH w b pb lb n m A V K) (hc:c<n) (f:Fr w.heap.size S w w2) (hS:∀ g∈S,g∈bl V) {v':Value} {l':List Int}
 (ls:Ls w2 (V.set c v') (K.set c l')) (hv:∀ g∈vb v',g∈bl V\/w.heap.size<=g):
 (w2.cell? ⟨b,1,none⟩=some (.slice (some ⟨lb,0,none⟩) n n)/\w2.cell? ⟨lb,c,none⟩=some (V.getD c nv)/\w2.frozen? ⟨lb,c,none⟩=false)/\∀ w3:World,Sm w3 w2->SC w (w3.setCell ⟨lb,c,none⟩ v') b pb lb n m V A (K.set c l'):=by
 have nb:b∉S:=λe=>h.st.not h.st.sb (by decide) (hS b e)
 have nl:lb∉S:=λe=>h.st.not h.st.sl (by decide) (hS lb e)
 have np:pb∉S:=λe=>h.st.not h.po.sb (by decide) (hS pb e)
 have s1:=h.st.sb.AA f h.st.sb.lt nb
 have s2:=h.st.sl.AA f h.st.sl.lt nl
 refine ⟨⟨s1.cell 1,(f.cell (p:=⟨lb,c,none⟩) h.st.sl.lt nl).trans (h.st.cv hc),s2.free c⟩,λw3 e3=>?_⟩
 have f3:=ABk f e3
 have st:=h.st.store (by decide) (by decide) f3 hS (ls.heap e3.1)
 refine ⟨⟨_,⟨st,?_⟩,λg hg=>?_⟩,(St.Ea f3 hS lb c v').mono (ADW _) λk _ hk hm=>?_⟩
 ·have p3:=h.po.AA f3 h.po.sb.lt np
  exact p3.AA ((Fr.refl w3.heap.size [lb] w3).setCell (Or.inr (by simp)) v') p3.sb.lt (by simp;exact λq=>(h.po.sb.ne h.st.sl (by decide)) q)
 ·rcases D9 (S:=vb v') (λ_ q=>q) hg with q | q
  ·exact Or.inl q
  ·exact hv g q
 ·simp only [AD0] at hk hm
  rcases hm with r | r
  ·exact hk (Or.inl r)
  ·exact hk (Or.inr (Or.inr r))
def Wk (Z X:List α) (o:Nat) (h:o+X.length<=Z.length):(splice Z o X).length=Z.length:=by
 unfold splice
 simp
 omega
def Wl (Z X:List α) (o k:Nat) (h:o+X.length<=Z.length) (hk:k<o\/o+X.length<=k):(splice Z o X)[k]?=Z[k]?:=by
 unfold splice
 rcases hk with hk | hk
 ·rw [ADl (by simp;omega),ADm,AHi hk]
 ·rw [ADj (by simp;omega),ADj (by simp;omega),AE0]
  congr 1
  simp
  omega
def ZY (Z X:List α) (o j:Nat) (h:o+X.length<=Z.length) (hj:j<X.length):(splice Z o X)[o+j]?=X[j]?:=by
 unfold splice
 rw [ADj (by simp;omega),ADl (by simp;omega)]
 congr 1
 simp
 omega
def Ls.ABl (h:Ls w V K) (hc:c<K.length) (e:V.getD c nv=.slice (some ⟨g,off,none⟩) (ks K c).length cap)
 (hb:AB w g cur 3) (h1:(ks K c).length<=cap) (h2:off+cap<=cur.length) (d:Nat) (k:AB w2 g (splice cur off (((ks K c).drop d).map (Value.int .i64))) 3) (f:Fr w.heap.size [g] w w2):
 Ls w2 (V.set c (.slice (some ⟨g,off,none⟩) ((ks K c).length-d) cap)) (K.set c ((ks K c).drop d)):=by
 have hx:(((ks K c).drop d).map (Value.int .i64)).length=(ks K c).length-d:=by simp
 have wr:Wr w w2 g off cap cur (splice cur off (((ks K c).drop d).map (Value.int .i64))):=
  ⟨hb,k,Wk _ _ _ (by omega),λq hq=>Wl _ _ _ _ (by omega) (by omega),f⟩
 refine h.turn hc (Or.inr ⟨g,off,cap,_,by simp,by simp;omega,k,by rw [wr.len];exact h2,λj hj=>?_⟩) λu ys q p=>?_
 ·rw [ZY _ _ _ _ (by omega) (by rw [hx];simpa using hj),Ae _ j hj]
 ·rw [e] at p
  refine ⟨wr.other q p,λg3 off3 n3 cap3 g4 off4 n4 cap4 e1 e2=>?_⟩
  simp only [Value.slice.injEq,AEB,Addr.mk.injEq] at e1
  obtain ⟨⟨rfl,rfl,_⟩,_,rfl⟩:=e1
  exact p _ _ _ _ _ _ _ _ rfl e2
def Oo {P:Program} {ops:Array Oper} {o:Oper} {a:Act} {K:Act->World->Prop} {Q:Exit->Act->World->Prop} {E:Prop} (hgd:o.guard=none) (d s:Operand) (dT sT:TypeId)
 (ho:o.op=.call { callee:=.builtin .copy,args:=#[d,s],argTypes:=#[dT,sT] }) (elem:TypeId) (hu:P.underlying dT=some (.slice elem)) (hsz:(P.info? elem).map (·.size)=some 1)
 (dp sp:Option Addr) (dLen dCap sLen sCap:Nat) (hd:a.eval d=.slice dp dLen dCap) (hs:a.eval s=.slice sp sLen sCap) (hn:Nat.min sLen dLen=0)
 (h:K (a.put o.dst (goInt 0)) w):if Region.wanted o (yielded ops a.tmps)=true then Oper.wp P o a w K Q else E:=by
 have hw:Region.wanted o (yielded ops a.tmps)=true:=by simp [Region.wanted,hgd]
 rw [AHi hw]
 have hrun:=run_copy_none (P:=P) w dT sT o.type elem dp sp dLen dCap sLen sCap hu hsz hn
 unfold Oper.wp
 simp [execOp,ho,resolve,invoke,builtin,hd,hs,hrun,Result.andThen]
 exact h
def SC.On {w w1:World} {b pb lb n m:Nat} {A A2:List Nat} {V:List Value} {K:List (List Int)} (h:SH w b pb lb n m A V K) (p:PO w1 pb m A2) (f:Fr w.heap.size [pb] w w1):SC w w1 b pb lb n m V A2 K:=
 ⟨⟨V,h.On p f,λ_ hg=>Or.inl hg⟩,f.mono (ADW _) (λk _ hk=>by
  simp only [AD0] at hk
  simp only [ADu]
  exact λr=>hk (Or.inr (Or.inl r)))⟩
def LX (c d:Nat) (w:World) (h:SH w b pb lb n m A V K) (hc:(c:Int)<n) (hl:(ks K c).length<=4) (hd:d<=(ks K c).length):
 Calls Tryz.prog 286 #[.pointer (some ⟨b,0,none⟩),.int .i64 (c:Int),.int .i64 (d:Int)] w λe w'=>e=.returned (.tuple #[])/\SC w w' b pb lb n m V (Dq m A ((ks K c).take d)) (K.set c ((ks K c).drop d)):=by
 have c1:=h.st.c1
 have cv:=h.st.cv (i:=c) (by omega)
 have hK:c<K.length:=by rw [h.st.kn];omega
 have lv:=h.st.lv (i:=c) (by omega)
 have f0:=h.st.sl.free c
 have SET:Hid (∀ (w1:World) (A1:List Nat) (w2:World) (S:List Nat) (v':Value) (l':List Int),SH w1 b pb lb n m A1 V K->Fr w1.heap.size S w1 w2->(∀ g∈S,g∈bl V)->Ls w2 (V.set c v') (K.set c l')->(∀ g∈vb v',g∈bl V\/w1.heap.size<=g)->_):=λw1 A1 w2 S v' l' h1 f hS ls hv=>h1.set (c:=c) (by omega) f hS ls hv
 have n1:¬ (b=lb):=h.st.sb.ne h.st.sl (by decide)
 have n2:¬ (lb=b):=λq=>n1 q.symm
 have H0:Hid (SH w b pb lb n m A V K):=h
 rcases lv with ⟨hv,hx⟩ | ⟨g,off,cap,cur,hv,hcap,hb,hfit,hcell⟩
 ·have hx:ks K c=[]:=hx
  have hd0:d=0:=by rw [hx] at hd;simpa using hd
  subst hd0
  rw [show Dq m A ((ks K c).take 0)=A from rfl,hx,show ([]:List Int).drop 0=[] from rfl]
  have ls:=h.st.ls.turn (c:=c) (w':=w) hK (v':=.slice none 0 0) (l':=[]) (Or.inl ⟨rfl,rfl⟩) λu ys k p=>⟨k,wX _ _ _⟩
  have FIN:=(h.set (c:=c) (by omega) (Fr.refl w.heap.size [] w) (by simp) ls (by simp [vb])).2
  have HF:Hid (∀ w3:World,Sm w3 w->SC w (w3.setCell ⟨lb,c,none⟩ (.slice none 0 0)) b pb lb n m V A (K.set c [])):=FIN
  rw [hv] at cv
  clear h hv hx ls FIN SET hl hd H0
  go_enter Tryz.func286,Tryz.ntmps286
  go_wp2
  go_loop [21] (λi=>i=.int .i64 0) (λ_=>0)
  case atStart=>rfl
  case round=>
   obtain rfl:=hrel
   go_wp2_with fail
   go_region_law (refine Oo rfl (.tmp 38) (.tmp 41) 122 122 rfl 3 Tryz.underlying122 Hh none none 0 0 0 0 (by simp [Act.eval,Act.put]) (by simp [Act.eval,Act.put]) (by decide) ?_)
   all_goals go_wp2
   all_goals go_end0
   all_goals exact ⟨rfl,(HF.out w ⟨rfl,rfl,rfl,rfl⟩).sm ⟨rfl,rfl,rfl,rfl⟩⟩
 ·have hx:K.getD c []=ks K c:=rfl
  rw [hx] at hv hcap hcell
  rw [hv] at cv
  obtain ⟨xs,hxs⟩:∃ xs,ks K c=xs:=⟨_,rfl⟩
  rw [hxs] at hl hd hv hcap hcell cv ⊢
  have MV:Hid (∀ (w1:World) (A1:List Nat) (wz w2:World),SH w1 b pb lb n m A1 V K->Fr w.heap.size [pb] w w1->Sm wz w1->AB w2 g (splice cur off ((xs.drop d).map (Value.int .i64))) 3->Fr wz.heap.size [g] wz w2->(w2.cell? ⟨b,1,none⟩=some (.slice (some ⟨lb,0,none⟩) n n)/\w2.cell? ⟨lb,c,none⟩=some (V.getD c nv)/\w2.frozen? ⟨lb,c,none⟩=false)/\∀ w3:World,Sm w3 w2->SC w1 (w3.setCell ⟨lb,c,none⟩ (.slice (some ⟨g,off,none⟩) (xs.length-d) cap)) b pb lb n m V A1 (K.set c (xs.drop d))):=λw1 A1 wz w2 h1 fp e k f=>by
   have f':Fr w1.heap.size [g] w1 w2:=e.fr (by rw [<- e.1];exact f)
   have hb1:AB w1 g cur 3:=hb.AA fp hb.lt (by simp;exact λq=>(hb.ne h.po.sb (by decide)) q)
   have ls:=h1.st.ls.ABl (c:=c) hK (by rw [hxs];exact hv) hb1 (by rw [hxs];exact hcap) hfit d (by rw [hxs];exact k) f'
   rw [hxs] at ls
   refine h1.set (by omega) f' (λq hq=>?_) ls (λq hq=>Or.inl ?_)
   ·simp at hq
    subst hq
    exact BD (i:=c) (by rw [hv];simp [vb])
   ·simp [vb] at hq
    subst hq
    exact BD (i:=c) (by rw [hv];simp [vb])
  have KB:Hid (∀ (w1:World),Fr w.heap.size [pb] w w1->AB w1 g cur 3):=λw1 fp=>hb.AA fp hb.lt (by simp;exact λq=>(hb.ne h.po.sb (by decide)) q)
  have KE:Hid (∀ (w1:World),Fr w.heap.size [pb] w w1->∀ j:Nat,j<xs.length->w1.cell? ⟨g,off+j,none⟩=some (.int .i64 (xs.getD j 0))):=λw1 fp j hj=>by rw [(KB.out w1 fp).cell];exact hcell j hj
  have P0:Hid (∀ (w1:World) (A1:List Nat),SH w1 b pb lb n m A1 V K->Fr w.heap.size [pb] w w1->SC w w1 b pb lb n m V A1 K):=λw1 A1 h1 f=>SC.On h h1.po f
  have HV:Hid (V.getD c nv=.slice (some ⟨g,off,none⟩) xs.length cap):=hv
  obtain ⟨q,hq⟩:∃ q,xs.length=q:=⟨_,rfl⟩
  have HQ:Hid (xs.length=q):=hq
  have hd2:(d:Int)<=q:=by omega
  have hq4:(q:Int)<=4:=by omega
  have hqc:(q:Int)<=cap:=by omega
  have hdc:(d:Int)<=cap:=by omega
  have FT:Hid (off+q<=cur.length):=by unfold Hid;omega
  rw [hq] at cv MV
  obtain ⟨R,hR⟩:∃ R,Dq m A (xs.take d)=R:=⟨_,rfl⟩
  have HR:Hid (Dq m A (xs.take d)=R):=hR
  rw [hR]
  obtain ⟨X,hX⟩:∃ X,(xs.drop d).map (Value.int .i64)=X:=⟨_,rfl⟩
  have lX:Hid (X.length=q-d):=by rw [<- hX];simp [Hid,hq]
  have oX:Hid (∀ v∈X,v.oneCell'=true):=by rw [<- hX];exact Ig _
  have PX:Hid (∀ (w1:World),Fr w.heap.size [pb] w w1->∀ (wz:World),Sm wz w1->∀ j v,X[j]?=some v->wz.cell? ((⟨g,off+d,none⟩:Addr).add j)=some v):=λw1 fp wz e j v hj=>by
   rw [<- hX] at hj
   have hj2:j<(xs.drop d).length:=by
    have:=(ADc.1 hj).1
    simpa using this
   rw [Ae _ j hj2] at hj
   have e1:=KE.out w1 fp (d+j) (by simp at hj2;omega)
   rw [Addr.add_lit,AFd]
   unfold World.cell? at e1 ⊢
   rw [e.1]
   rw [<- hj]
   rw [show xs.getD (d+j) 0=(xs.drop d).getD j 0 by rw [ADY,ADY,AE0]] at e1
   exact e1
  rw [hX] at MV
  rw [<- lX.out] at MV
  have CB:Hid (∀ (w1:World) (A1:List Nat),SH w1 b pb lb n m A1 V K->w1.cell? ⟨b,0,none⟩=some (.pointer (some ⟨pb,0,none⟩))/\w1.cell? ⟨b,1,none⟩=some (.slice (some ⟨lb,0,none⟩) n n)/\w1.cell? ⟨lb,c,none⟩=some (.slice (some ⟨g,off,none⟩) q cap)/\w1.frozen? ⟨lb,c,none⟩=false):=λw1 A1 h1=>⟨h1.st.c0,h1.st.c1,by rw [h1.st.cv (by omega),HV.out,HQ.out],h1.st.sl.free c⟩
  clear h hv hx hxs hl hd hcap hcell hb hfit SET hK hX hR hq
  generalize xs.drop d=ld at *
  go_enter Tryz.func286,Tryz.ntmps286
  go_wp2
  go_loopw [21] (λi wr=>∃ k:Nat,(k:Int)<=d/\i=.int .i64 k/\SH wr b pb lb n m (Dq m A (xs.take k)) V K/\Fr w.heap.size [pb] w wr) (λi _=>d-(intOf i).toNat)
  case atStart=>exact ⟨0,by omega,rfl,H0.out,Fr.refl _ _ _⟩
  case round=>
   obtain ⟨k,hk,rfl,h1,f1⟩:=hrel
   have H1:Hid (SH wr b pb lb n m (Dq m A (xs.take k)) V K):=h1
   have F1:Hid (Fr w.heap.size [pb] w wr):=f1
   obtain ⟨k0,k1,k2,k3⟩:=CB.out wr _ h1
   by_cases l:(k:Int)<d
   ·have ce:=KE.out wr f1 k (by have:=HQ.out;omega)
    have C:Hid (∀ _:Unit,_):=λ_=>ZR (xs.getD k 0) wr h1.po
    have GS:Hid (Dq m A (xs.take (k+1))=FY m (Dq m A (xs.take k)) (xs.getD k 0)):=by rw [Eo xs k (by have:=HQ.out;omega),fH];exact rfl
    generalize xs.getD k 0=y at *
    generalize VA m (Dq m A (xs.take k)) y=ee at *
    have hkc:(k:Int)<cap:=by omega
    clear h1 f1
    go_wp2_with fail
    refine (C.out ()).mono ?_
    rintro e u1 ⟨rfl,p1,f2⟩
    have h2:=H1.out.On p1 f2
    rw [<- GS.out] at h2
    have f3:Fr w.heap.size [pb] w u1:=F1.out.trans (f2.less F1.out.size)
    clear p1 f2
    go_wp2
    go_roundw
    case rel=>exact ⟨k+1,by omega,by go_num,h2,f3⟩
    case measure=>simp [intOf];omega
   ·obtain rfl:k=d:=by omega
    rw [HR.out] at H1
    have NE:Hid (0<X.length->¬ (cap=k)):=λhp=>by have:=lX.out;omega
    have lc:X.length<=cap:=by have:=lX.out;omega
    have N1:Hid (X.length=Nat.min (q-k) q):=by rw [lX.out];exact (Nat.min_eq_left (by omega)).symm
    have FX:Hid (off+X.length<=cur.length):=by rw [lX.out];have:=FT.out;unfold Hid;omega
    clear h1 f1
    go_wp2_with fail
    go_region_law
     (first | (refine Qu rfl (.tmp 38) (.tmp 41) 122 122 rfl 3 Tryz.underlying122 Hh (some ⟨g,off,none⟩) (if cap=k then some ⟨g,off,none⟩ else some ⟨g,off+k,none⟩) q cap (q-k) (cap-k) (by simp [Act.eval,Act.put]) (by simp [Act.eval,Act.put]) g off cur 3 ((KB.out _ F1.out).heap rfl) X N1.out (λhp=>⟨rfl,_,AHh (NE.out hp),PX.out _ F1.out _ ⟨rfl,rfl,rfl,rfl⟩⟩) FX.out oX.out ?_;intro w2 G2 F2;obtain ⟨⟨a1,a2,a3⟩,a4⟩:=MV.out wr _ wr.drew w2 H1.out F1.out ⟨rfl,rfl,rfl,rfl⟩ G2.out F2.out;have HA:Hid (∀ w3:World,Sm w3 w2->SC wr (w3.setCell ⟨lb,c,none⟩ (.slice (some ⟨g,off,none⟩) X.length cap)) b pb lb n m V R (K.set c ld)):=a4;clear a4))
    all_goals go_wp2
    all_goals go_end0
    all_goals first
     | exact ⟨rfl,SC.trans (V1:=V) (P0.out _ _ H1.out F1.out).fr (λ_ hg=>Or.inl hg) (HA.out _ ⟨rfl,rfl,rfl,rfl⟩)⟩
     | (have e:cap=k:=(by assumption);rw [e] at HA;exact ⟨rfl,SC.trans (V1:=V) (P0.out _ _ H1.out F1.out).fr (λ_ hg=>Or.inl hg) (HA.out _ ⟨rfl,rfl,rfl,rfl⟩)⟩)
def De (K:List (List Int)) (c:Nat) (hc:c<K.length):K.set c (ks K c)=K:=by
 apply AEH
 intro i
 rw [AD6]
 by_cases e:c=i
 ·subst e
  unfold ks
  rw [AHi rfl,AHi hc,ADY,ADZ hc]
  rfl
 ·rw [AHh e]
def Oq (K:List (List Int)) (c:Nat) (l:List Int) (hc:c<K.length):(K.set c l).getD c []=l:=by
 have:=BE K c c l hc
 rw [AHi rfl] at this
 exact this
def xD {v:Value} (h:Lv w v xs) (hp:xs≠[]):∃ (g off cap:Nat) (cur:List Value),v=.slice (some ⟨g,off,none⟩) xs.length cap/\xs.length<=cap/\AB w g cur 3/\off+cap<=cur.length/\∀ j,j<xs.length->cur[off+j]?=some (.int .i64 (xs.getD j 0)):=by
 rcases h with ⟨_,e⟩ | h
 ·exact absurd e hp
 ·exact h
def ZZ (xs:List Int):xs.getD (xs.length-1) 0=xs.getLastD 0:=by
 rw [List.getLastD_eq_getLast?,List.getLast?_eq_getElem?,ADY]
def Tu (h1:xs.length<=cap) (hb:AB w g cur 3) (h2:off+cap<=cur.length) (h3:∀ j,j<xs.length->cur[off+j]?=some (.int .i64 (xs.getD j 0))):Lv w (.slice (some ⟨g,off,none⟩) (xs.length-1) cap) xs.dropLast:=by
 refine Or.inr ⟨g,off,cap,cur,by simp,by simp;omega,hb,h2,λj hj=>?_⟩
 simp at hj
 rw [h3 j (by omega)]
 rw [ADY,ADY,List.dropLast_eq_take,ADm,AHi (by omega)]
def Wn (c:Int) (w:World) (h:SH w b pb lb n m A V K) (kl:∀ i,(ks K i).length<=4):
 Calls Tryz.prog 233 #[.pointer (some ⟨b,0,none⟩),.int .i64 c] w λe w'=>e=.returned (.tuple #[.int .i64 (SM m n A K c),.int .i64 (SK m n A K c)])/\SC w w' b pb lb n m V (Pw m n A K c) (LS m n A K c):=by
 have C:Hid (∀ _:Unit,_):=λ_=>BR c w h
 have HS:Hid (SC w w b pb lb n m V A K):=SC.refl h
 cases i:AW n c with
 | false=>
  rw [i] at C
  rw [show SM m n A K c=0 by unfold SM;rw [i];rfl,show SK m n A K c=3 by unfold SK;rw [i];rfl,show Pw m n A K c=A by unfold Pw;rw [i];rfl,show LS m n A K c=K by unfold LS;rw [i];rfl]
  clear h i kl
  go_enter Tryz.func233,Tryz.ntmps233
  go_wp2_with fail
  refine (C.out ()).mono ?_
  rintro e w' ⟨rfl,rfl⟩
  go_wp2
  go_ret2
  exact ⟨rfl,HS.out⟩
 | true=>
  rw [i] at C
  have hi:=By i
  obtain ⟨c,rfl⟩:=AD8 hi.1
  have hc:(c:Int)<n:=hi.2
  have hK:c<K.length:=by rw [h.st.kn];omega
  obtain ⟨s1,hs1⟩:∃ s1,al m A (ks K c)=s1:=⟨_,rfl⟩
  rw [show SM m n A K (c:Int)=s1.2.getLastD 0 by unfold SM;rw [i,<- hs1];rfl,show SK m n A K (c:Int)=if s1.2=[] then 5 else 0 by unfold SK;rw [i,<- hs1];rfl,show Pw m n A K (c:Int)=s1.1 by unfold Pw;rw [i,<- hs1];rfl,show LS m n A K (c:Int)=K.set c s1.2.dropLast by unfold LS;rw [i,<- hs1];rfl]
  obtain ⟨N,hN⟩:∃ N,s1.2.getLastD 0=N:=⟨_,rfl⟩
  obtain ⟨E,hE⟩:∃ E:Int,(if s1.2=[] then 5 else 0)=E:=⟨_,rfl⟩
  have HNE:Hid (s1.2.getLastD 0=N/\(if s1.2=[] then 5 else 0)=E):=⟨hN,hE⟩
  rw [hN,hE]
  have c1:=h.st.c1
  have cv:=h.st.cv (i:=c) (by omega)
  obtain ⟨a,cap,hv⟩:=(h.st.lv (i:=c) (by omega)).shape
  rw [hv] at cv
  change w.cell? ⟨lb,c,none⟩=some (.slice a (ks K c).length cap) at cv
  have FE:Hid (∀ _:Unit,_):=λ_=>ZU c w h hc (kl c)
  have CUT:Hid ((ks K c=[]->fk m (A,ks K c) 2=s1)/\(ks K c≠[]->(A,ks K c)=s1)):=by
   unfold al at hs1
   exact ⟨λe=>by rw [AHi e] at hs1;exact hs1,λe=>by rw [AHh e] at hs1;exact hs1⟩
  have HK:Hid (c<K.length/\K.set c (ks K c)=K):=⟨hK,De K c hK⟩
  have L4:Hid (s1.2.length<=6):=by
   rw [<- hs1]
   unfold al
   have h1:=Js (m:=m) (s:=f1 m (A,ks K c))
   have h2:=Js (m:=m) (s:=(A,ks K c))
   have h3:=kl c
   split
   ·show (f1 m (f1 m (A,ks K c))).2.length<=6
    simp at h2
    omega
   ·show (ks K c).length<=6
    omega
  clear h i hi hK hs1 hN hE hv
  go_enter Tryz.func233,Tryz.ntmps233
  go_wp2_with fail
  refine (C.out ()).mono ?_
  rintro e w' ⟨rfl,rfl⟩
  go_upto_if 22 with (fail)
  go_cut [1] (λcc wx=>cc=.int .i64 (c:Int)/\SC w' wx b pb lb n m V s1.1 (K.set c s1.2))
  case first=>
   by_cases e:ks K c=[]
   ·rw [CUT.out.1 e] at FE
    have z0:((((ks K c).length:Nat):Int)==0)=true:=by rw [e];rfl
    clear e kl
    go_wp2_with fail
    refine (FE.out ()).mono ?_
    rintro e u1 ⟨rfl,h1⟩
    go_wp2
    go_meet
    case rel=>exact ⟨rfl,h1⟩
   ·have e1:=CUT.out.2 e
    have z0:((((ks K c).length:Nat):Int)==0)=false:=by
     have:=AEv.2 e
     simp
     omega
    have H1:Hid (SC w' w' b pb lb n m V s1.1 (K.set c s1.2)):=by rw [<- e1];show SC _ _ _ _ _ _ _ _ A (K.set c (ks K c));rw [HK.out.2];exact HS.out
    clear e e1 FE kl
    generalize (ks K c).length=q at *
    go_wp2
    go_meet
    case rel=>exact ⟨rfl,H1.out⟩
  case rest=>
   obtain ⟨rfl,sc⟩:=hcut
   clear FE CUT cv
   obtain ⟨V1,h1,hV1⟩:=sc.ex
   have F1:Hid (Fr w'.heap.size (lb::pb::bl V) w' wc/\∀ g∈bl V1,g∈bl V\/w'.heap.size<=g):=⟨sc.fr,hV1⟩
   have d1:=h1.st.c1
   have dv:=h1.st.cv (i:=c) (by omega)
   have df:wc.frozen? ⟨lb,c,none⟩=false:=h1.st.sl.free c
   have lv:=h1.st.lv (i:=c) (by omega)
   rw [Oq K c s1.2 HK.out.1] at lv
   by_cases e:s1.2=[]
   ·obtain ⟨r1,r2⟩:=HNE.out
    rw [e] at r1
    rw [AHi e] at r2
    have r1:(0:Int)=N:=r1
    subst r1
    subst r2
    have SCF:Hid (SC w' wc b pb lb n m V s1.1 (K.set c s1.2.dropLast)):=by rw [e] at sc ⊢;exact sc
    obtain ⟨a,cap,hv⟩:=lv.shape
    rw [e] at hv
    simp only [AEh] at hv
    rw [hv] at dv
    clear sc h1 lv hv e
    go_wp2
    go_ret2
    exact ⟨rfl,SCF.out⟩
   ·obtain ⟨g,off,cap,cur,hv,hcap,hb,hfit,hcell⟩:=xD lv e
    obtain ⟨r1,r2⟩:=HNE.out
    rw [AHh e] at r2
    subst r2
    have hp:=AEv.2 e
    have ce:=hcell (s1.2.length-1) (by omega)
    rw [ZZ s1.2,r1] at ce
    have cg:wc.cell? ⟨g,off+(s1.2.length-1),none⟩=some (.int .i64 N):=by rw [hb.cell];exact ce
    have ls:=h1.st.ls.cut (c:=c) (by simp;exact HK.out.1) hv (ADW off) (ADW _) (Tu hcap hb hfit hcell)
    have bg:∀ q∈[g],q∈bl V1:=λq hq=>by
     simp at hq
     subst hq
     exact BD (i:=c) (by rw [hv];simp [vb])
    have FN:=(h1.set (c:=c) (by omega) (Fr.refl wc.heap.size [] wc) (by simp) ls (λq hq=>Or.inl (bg q (by simpa [vb] using hq)))).2
    rw [hv] at dv
    obtain ⟨q,hq⟩:∃ q,s1.2.length-1=q:=⟨_,rfl⟩
    have hq1:s1.2.length=q+1:=by omega
    rw [hq] at cg FN
    rw [hq1] at dv hcap
    have FF:Hid (∀ w3:World,Sm w3 wc->SC w' (w3.setCell ⟨lb,c,none⟩ (.slice (some ⟨g,off,none⟩) q cap)) b pb lb n m V s1.1 (K.set c s1.2.dropLast)):=λw3 e3=>SC.trans F1.out.1 F1.out.2 (by
     have:=FN w3 e3
     rw [List.set_set] at this
     exact this)
    have hqc:(q:Int)+1<=cap:=by omega
    have hq6:(q:Int)<=6:=by have:=L4.out;omega
    have n1:¬ (b=lb):=h1.st.sb.ne h1.st.sl (by decide)
    have n2:¬ (lb=b):=λq=>n1 q.symm
    clear sc h1 lv hv e hcell hfit hb ls bg FN hV1 hcap hp ce r1 HNE hq hq1
    go_wp2_with fail
    go_region
    all_goals go_wp2
    all_goals go_ret2
    all_goals first
     | exact ⟨rfl,(FF.out wc ⟨rfl,rfl,rfl,rfl⟩).sm ⟨rfl,rfl,rfl,rfl⟩⟩
     | exact ⟨rfl,FF.out _ ⟨rfl,rfl,rfl,rfl⟩⟩
def Gv (c x:Int) (w:World) (h:SH w b pb lb n m A V K) (kl:∀ i,(ks K i).length<=4):
 Calls Tryz.prog 235 #[.pointer (some ⟨b,0,none⟩),.int .i64 c,.int .i64 x] w λe w'=>e=.returned (.int .i64 (NK m n A K c x))/\SC w w' b pb lb n m V (LU m n A K c x) (JL m n A K c x):=by
 have C:Hid (∀ _:Unit,_):=λ_=>BR c w h
 have HS:Hid (SC w w b pb lb n m V A K):=SC.refl h
 cases i:AW n c with
 | false=>
  rw [i] at C
  rw [show NK m n A K c x=3 by unfold NK;rw [i];rfl,show LU m n A K c x=A by unfold LU;rw [i];rfl,show JL m n A K c x=K by unfold JL;rw [i];rfl]
  clear h i kl
  go_enter Tryz.func235,Tryz.ntmps235
  go_wp2_with fail
  refine (C.out ()).mono ?_
  rintro e w' ⟨rfl,rfl⟩
  go_wp2
  go_ret
  exact ⟨rfl,HS.out⟩
 | true=>
  rw [i] at C
  have D:Hid (∀ _:Unit,_):=λ_=>fK x w h kl
  cases j:hs m A K x with
  | false=>
   rw [j] at D
   rw [show NK m n A K c x=4 by unfold NK;rw [i,j];rfl,show LU m n A K c x=A by unfold LU;rw [i,j];rfl,show JL m n A K c x=K by unfold JL;rw [i,j];rfl]
   clear h i kl j
   go_enter Tryz.func235,Tryz.ntmps235
   go_wp2_with fail
   refine (C.out ()).mono ?_
   rintro e w' ⟨rfl,rfl⟩
   go_wp2_with fail
   refine (D.out ()).mono ?_
   rintro e u1 ⟨rfl,k,rfl⟩
   go_wp2
   go_ret
   exact ⟨rfl,HS.out.sm ⟨rfl,rfl,rfl,rfl⟩⟩
  | true=>
   rw [j] at D
   have hi:=By i
   obtain ⟨c,rfl⟩:=AD8 hi.1
   have hc:(c:Int)<n:=hi.2
   have hK:c<K.length:=by rw [h.st.kn];omega
   obtain ⟨s1,hs1⟩:∃ s1,gs m A (ks K c)=s1:=⟨_,rfl⟩
   rw [show NK m n A K (c:Int) x=0 by unfold NK;rw [i,j];rfl,show LU m n A K (c:Int) x=s1.1 by unfold LU;rw [i,j,<- hs1];rfl,show JL m n A K (c:Int) x=K.set c (s1.2++[x]) by unfold JL;rw [i,j,<- hs1];rfl]
   have c1:=h.st.c1
   have cv:=h.st.cv (i:=c) (by omega)
   obtain ⟨a,cap,hv⟩:=(h.st.lv (i:=c) (by omega)).shape
   rw [hv] at cv
   change w.cell? ⟨lb,c,none⟩=some (.slice a (ks K c).length cap) at cv
   have PB:Hid (∀ k:Nat,2<=(ks K c).length->_):=λk h2=>LX c 2 (w.drewN k) (h.heap rfl) hc (kl c) h2
   have CUT:Hid (((ks K c).length=4->Dq m A ((ks K c).take 2)=s1.1/\(ks K c).drop 2=s1.2)/\((ks K c).length≠4->A=s1.1/\ks K c=s1.2)):=by
    unfold gs at hs1
    exact ⟨λe=>by rw [AHi e] at hs1;rw [<- hs1];exact ⟨rfl,rfl⟩,λe=>by rw [AHh e] at hs1;rw [<- hs1];exact ⟨rfl,rfl⟩⟩
   have HK:Hid (c<K.length/\K.set c (ks K c)=K):=⟨hK,De K c hK⟩
   have L4:Hid (s1.2.length<=6):=by
    rw [<- hs1]
    unfold gs
    have h3:=kl c
    split
    ·show ((ks K c).drop 2).length<=6
     simp
     omega
    ·show (ks K c).length<=6
     omega
   have k4:((ks K c).length:Int)<=4:=by have:=kl c;omega
   clear h i j hi hK hs1 hv kl
   go_enter Tryz.func235,Tryz.ntmps235
   go_wp2_with fail
   refine (C.out ()).mono ?_
   rintro e w' ⟨rfl,rfl⟩
   go_wp2_with fail
   refine (D.out ()).mono ?_
   rintro e u1 ⟨rfl,k,rfl⟩
   go_upto_if 25 with (fail)
   go_cut [1,2] (λcc xx wx=>cc=.int .i64 (c:Int)/\xx=.int .i64 x/\SC w' wx b pb lb n m V s1.1 (K.set c s1.2))
   case first=>
    by_cases e:(ks K c).length=4
    ·have P2:Hid (∀ _:Unit,_):=λ_=>PB.out k (by omega)
     rw [(CUT.out.1 e).1,(CUT.out.1 e).2] at P2
     have z0:((((ks K c).length:Nat):Int)==4)=true:=by rw [e];rfl
     clear e k4
     go_wp2_with fail
     refine (P2.out ()).mono ?_
     rintro e u1 ⟨rfl,h1⟩
     have h2:=SC.from (w:=w') (w1:=w'.drewN k) ⟨rfl,rfl,rfl,rfl⟩ h1
     clear h1
     go_wp2
     go_meet
     case rel=>exact ⟨rfl,rfl,h2⟩
    ·have z0:((((ks K c).length:Nat):Int)==4)=false:=by simp;omega
     have H1:Hid (SC w' w' b pb lb n m V s1.1 (K.set c s1.2)):=by rw [<- (CUT.out.2 e).1,<- (CUT.out.2 e).2,HK.out.2];exact HS.out
     clear e PB CUT
     generalize (ks K c).length=q at *
     go_wp2
     go_meet
     case rel=>exact ⟨rfl,rfl,H1.out.sm ⟨rfl,rfl,rfl,rfl⟩⟩
   case rest=>
    obtain ⟨rfl,rfl,sc⟩:=hcut
    clear PB CUT cv k4
    obtain ⟨V1,h1,hV1⟩:=sc.ex
    have F1:Hid (Fr w'.heap.size (lb::pb::bl V) w' wc/\∀ g∈bl V1,g∈bl V\/w'.heap.size<=g):=⟨sc.fr,hV1⟩
    have d1:=h1.st.c1
    have dv:=h1.st.cv (i:=c) (by omega)
    have df:wc.frozen? ⟨lb,c,none⟩=false:=h1.st.sl.free c
    have LV:=h1.beside (c:=c) (by omega)
    rw [Oq K c s1.2 HK.out.1] at LV
    have LV:Hid (∀ (o:Obj) (wA:World),Sm wA (wc.alloc o)->Lv wA (V1.getD c nv) s1.2):=LV
    have FIN:=h1.append (c:=c) (y:=x) (by omega)
    rw [Oq K c s1.2 HK.out.1,List.set_set] at FIN
    have FF:Hid (∀ (o:Obj) (wA:World) (v2:Value) (w2:World),LR wA (V1.getD c nv) s1.2 x v2 w2->Sm wA (wc.alloc o)->(w2.cell? ⟨b,1,none⟩=some (.slice (some ⟨lb,0,none⟩) n n)/\w2.cell? ⟨lb,c,none⟩=some (V1.getD c nv)/\w2.frozen? ⟨lb,c,none⟩=false)/\∀ w3:World,Sm w3 w2->SC w' (w3.setCell ⟨lb,c,none⟩ v2) b pb lb n m V s1.1 (K.set c (s1.2++[x]))):=λo wA v2 w2 hA e=>by
     obtain ⟨g1,g2⟩:=FIN o wA e v2 w2 hA
     exact ⟨g1,λw3 e3=>SC.trans F1.out.1 F1.out.2 (g2 w3 e3)⟩
    have n1:¬ (b=lb):=h1.st.sb.ne h1.st.sl (by decide)
    have n2:¬ (lb=b):=λq=>n1 q.symm
    have z1:(wc.alloc (.cells #[.int .i64 x] 3)).cell? ⟨b,1,none⟩=some (.slice (some ⟨lb,0,none⟩) n n):=(h1.st.sb.alloc _).cell 1
    have z2:(wc.alloc (.cells #[.int .i64 x] 3)).cell? ⟨lb,c,none⟩=some (V1.getD c nv):=((h1.st.sl.alloc _).cell c).trans ((h1.st.sl.cell c).symm.trans (h1.st.cv (by omega)))
    generalize V1.getD c nv=v1 at *
    clear FIN sc h1 hV1
    go_wp2_with fail
    go_region_law
     (first | (refine SJ (v:=v1) rfl (.tmp 40) (.tmp 42) rfl x rfl (LV.out _ _ ⟨rfl,rfl,rfl,rfl⟩) (by have:=L4.out;omega) _ _ rfl (((AB.new wc [_] _).heap rfl).cell 0) ?_;intro v2 w2 hA;obtain ⟨x2,q2,rfl⟩:=Pv hA;obtain ⟨⟨a1,a2,a3⟩,a4⟩:=FF.out _ _ _ _ hA ⟨rfl,rfl,rfl,rfl⟩;have HA:Hid (∀ w3:World,Sm w3 w2->SC w' (w3.setCell ⟨lb,c,none⟩ (.slice x2 (s1.2.length+1) q2)) b pb lb n m V s1.1 (K.set c (s1.2++[x]))):=a4;clear hA a4))
    all_goals go_wp2
    all_goals go_ret
    all_goals exact ⟨rfl,HA.out _ ⟨rfl,rfl,rfl,rfl⟩⟩
def Wo (c:Int) (w:World) (h:SH w b pb lb n m A V K) (kl:∀ i,(ks K i).length<=4):
 Calls Tryz.prog 240 #[.pointer (some ⟨b,0,none⟩),.int .i64 c] w λe w'=>e=.returned (.tuple #[.int .i64 (VD n K c),.int .i64 (EO n c)])/\SC w w' b pb lb n m V (Px m n A K c) (H' n K c):=by
 have C:Hid (∀ _:Unit,_):=λ_=>BR c w h
 have HS:Hid (SC w w b pb lb n m V A K):=SC.refl h
 cases i:AW n c with
 | false=>
  rw [i] at C
  rw [show VD n K c=0 by unfold VD;rw [i];rfl,show EO n c=3 by unfold EO;rw [i];rfl,show Px m n A K c=A by unfold Px;rw [i];rfl,show H' n K c=K by unfold H';rw [i];rfl]
  clear h i kl
  go_enter Tryz.func240,Tryz.ntmps240
  go_wp2_with fail
  refine (C.out ()).mono ?_
  rintro e w' ⟨rfl,rfl⟩
  go_wp2
  go_ret2
  exact ⟨rfl,HS.out⟩
 | true=>
  rw [i] at C
  have hi:=By i
  obtain ⟨c,rfl⟩:=AD8 hi.1
  have hc:(c:Int)<n:=hi.2
  rw [show VD n K (c:Int)=((ks K c).length:Int) by unfold VD;rw [i];rfl,show EO n (c:Int)=0 by unfold EO;rw [i];rfl,show Px m n A K (c:Int)=Dq m A (ks K c) by unfold Px;rw [i];rfl,show H' n K (c:Int)=K.set c [] by unfold H';rw [i];rfl]
  have c1:=h.st.c1
  have cv:=h.st.cv (i:=c) (by omega)
  obtain ⟨a,cap,hv⟩:=(h.st.lv (i:=c) (by omega)).shape
  rw [hv] at cv
  change w.cell? ⟨lb,c,none⟩=some (.slice a (ks K c).length cap) at cv
  have PB:Hid (∀ _:Unit,_):=λ_=>LX c (ks K c).length w h hc (kl c) (ADW _)
  rw [AEV,List.drop_length] at PB
  clear h i hi hv kl
  generalize (ks K c).length=q at *
  go_enter Tryz.func240,Tryz.ntmps240
  go_wp2_with fail
  refine (C.out ()).mono ?_
  rintro e w' ⟨rfl,rfl⟩
  go_wp2_with fail
  refine (PB.out ()).mono ?_
  rintro e w' ⟨rfl,h1⟩
  go_wp2
  go_ret2
  exact ⟨rfl,h1⟩
def Tryz.Qj:(Tryz.prog.info? 122).map (λi=>(i.zero,i.size,i.bytes))=some (some (.slice none 0 0),1,24):=by kernel_rfl
def fL (n:Nat):madeCells #[Value.slice none 0 0] n=(List.replicate n nv).toArray:=by
 apply AFU
 ·simp [size_madeCells]
 ·intro i h1 h2
  simp [madeCells,AF5,nv]
def Vk (s n k:Nat):List Value:=(List.range n).map λi=>if i<k then .slice (some ⟨s,i*4,none⟩) 0 4 else nv
def pC (s n:Nat):Vk s n 0=List.replicate n nv:=by
 unfold Vk
 apply AEH
 intro i
 rw [ADn,AEA]
 by_cases h:i<n
 ·rw [AET h,AHi h]
  rfl
 ·rw [ADg (by simpa using h),AHh h]
  rfl
def NN (s n k:Nat):(Vk s n k).length=n:=by simp [Vk]
def Qk (s n k i:Nat) (h:i<n):(Vk s n k)[i]?=some (if i<k then .slice (some ⟨s,i*4,none⟩) 0 4 else nv):=by
 unfold Vk
 rw [ADn,AET h]
 rfl
def xE (s n k:Nat) (_h:k<n):(Vk s n k).set k (.slice (some ⟨s,k*4,none⟩) 0 4)=Vk s n (k+1):=by
 apply AEH
 intro i
 by_cases hi:i<n
 ·rw [AD6,Qk s n k i hi,Qk s n (k+1) i hi]
  by_cases e:k=i
  ·subst e
   rw [AHi rfl,AHi (by rw [NN];exact hi),AHi (by omega)]
  ·rw [AHh e]
   by_cases c:i<k
   ·rw [AHi c,AHi (by omega)]
   ·rw [AHh c,AHh (by omega)]
 ·rw [ADg (by rw [AEU,NN];omega),ADg (by rw [NN];omega)]
def Za (n:Nat) (w:World) (h1:(1:Int)<=n) (h2:(n:Int)<=64):
 Calls Tryz.prog 69 #[.int .i64 (n:Int)] w λe w'=>e=.returned (.slice (some ⟨w.heap.size+1,0,none⟩) n n)/\AB w' (w.heap.size+1) (Vk w.heap.size n n) 122/\AB w' w.heap.size ((List.replicate (n*4) (0:Int)).map (Value.int .i64)) 3/\Fr w.heap.size [] w w':=by
 obtain ⟨q,hq⟩:∃ q,n*4=q:=⟨_,rfl⟩
 have hqI:(n:Int)*4=(q:Int):=by omega
 have hqH:Hid ((q:Int)=n*4):=by unfold Hid;omega
 have hmk:=run_make_row' (P:=Tryz.prog) 122 3 (.int .i64 0) 8 Tryz.underlying122 Tryz.Dw rfl .i64 .i64 q (by omega) (by omega)
 rw [ES] at hmk
 have hmk2:=run_make_row' (P:=Tryz.prog) 176 122 (.slice none 0 0) 24 Tryz.underlying176 Tryz.Qj rfl .i64 .i64 n (by omega) (by omega)
 rw [fL] at hmk2
 rw [hq]
 obtain ⟨s,hs⟩:∃ s,w.heap.size=s:=⟨_,rfl⟩
 have HS:Hid (w.heap.size=s):=hs
 obtain ⟨Z,hZ⟩:∃ Z:List Value,(List.replicate q (0:Int)).map (Value.int .i64)=Z:=⟨_,rfl⟩
 rw [hZ] at hmk ⊢
 have B0:Hid (AB ((w.alloc (.cells Z.toArray 3)).alloc (.cells (List.replicate n nv).toArray 122)) (s+1) (Vk s n 0) 122/\AB ((w.alloc (.cells Z.toArray 3)).alloc (.cells (List.replicate n nv).toArray 122)) s Z 3/\Fr s [] w ((w.alloc (.cells Z.toArray 3)).alloc (.cells (List.replicate n nv).toArray 122))):=by
  subst hs
  refine ⟨?_,(AB.new w Z 3).alloc _,((Fr.refl _ _ _).alloc (ADW _) _).alloc (by simp) _⟩
  rw [pC]
  have:=AB.new (w.alloc (.cells Z.toArray 3)) (List.replicate n nv) 122
  simpa using this
 rw [hs]
 generalize List.replicate n nv=Y at *
 clear hq hZ
 go_enter Tryz.func69,Tryz.ntmps69
 go_wp2
 go_loopw [14] (λi wr=>∃ k:Nat,(k:Int)<=n/\i=.int .i64 k/\AB wr (s+1) (Vk s n k) 122/\AB wr s Z 3/\Fr s [] w wr) (λi _=>n-(intOf i).toNat)
 case atStart=>exact ⟨0,by omega,rfl,B0.out⟩
 case round=>
  obtain ⟨k,hk,rfl,b1,b2,f1⟩:=hrel
  by_cases l:(k:Int)<n
  ·have cc:=b1.cell k
   rw [Qk s n k k (by omega),AHh (by omega)] at cc
   have ff:=b1.free k
   have BS:Hid (∀ v,v=Value.slice (some ⟨s,k*4,none⟩) 0 4->AB (wr.setCell ⟨s+1,k,none⟩ v) (s+1) (Vk s n (k+1)) 122/\AB (wr.setCell ⟨s+1,k,none⟩ v) s Z 3/\Fr s [] w (wr.setCell ⟨s+1,k,none⟩ v)):=λv hv=>by
    subst hv
    refine ⟨?_,b2.other (by simp) _,f1.setCell (Or.inl (by simp)) _⟩
    rw [<- xE s n k (by omega)]
    exact b1.set k _
   have m1:(k:Int)*4+4<=q:=by have:=hqH.out;omega
   have m2:(k:Int)*4<=q:=by omega
   clear b1 b2 f1
   go_wp2
   go_roundw
   case rel=>exact ⟨k+1,by omega,by go_num,BS.out _ rfl⟩
   case measure=>simp [intOf];omega
  ·obtain rfl:k=n:=by omega
   go_wp2
   go_ret
   exact ⟨rfl,b1,b2,f1⟩
def fM {s:Nat} (h:AB w s ((List.replicate (n*4) (0:Int)).map (Value.int .i64)) 3):Ls w (Vk s n n) (List.replicate n []):=by
 have e:∀ i,i<n->(Vk s n n).getD i nv=.slice (some ⟨s,i*4,none⟩) 0 4:=λi hi=>by
  rw [ADY,Qk s n n i hi,AHi hi]
  rfl
 have e2:∀ i,(List.replicate n ([]:List Int)).getD i []=[]:=λi=>by
  rw [ADY,AEA]
  split <;> rfl
 refine ⟨by simp [NN],λi hi=>?_,λi j hi hj hn=>?_⟩
 ·simp at hi
  rw [e i hi,e2]
  exact Or.inr ⟨s,i*4,4,_,rfl,by simp,h,by simp;omega,λj hj=>by simp at hj⟩
 ·simp at hi hj
  rw [e i hi,e j hj]
  intro g off n cap g2 off2 n2 cap2 h1 h2
  simp only [Value.slice.injEq,AEB,Addr.mk.injEq] at h1 h2
  obtain ⟨⟨rfl,rfl,_⟩,_,rfl⟩:=h1
  obtain ⟨⟨rfl,rfl,_⟩,_,rfl⟩:=h2
  exact Or.inr (by omega)
def ABm {s:Nat} (h:g∈bl (Vk s n k)):g=s:=by
 obtain ⟨v,hv,hg⟩:=AEX.1 h
 obtain ⟨i,_,e⟩:=AE6.1 hv
 by_cases c:i<k
 ·rw [AHi c] at e
  subst e
  simpa [vb] using hg
 ·rw [AHh c] at e
  subst e
  simp [vb,nv] at hg
def Ec (n m:Nat) (w:World) (h1:(1:Int)<=n) (h2:(n:Int)<=64) (h3:(1:Int)<=m) (h4:(m:Int)<=12):
 Calls Tryz.prog 33 #[.int .i64 (n:Int),.int .i64 (m:Int)] w λe w'=>∃ b pb lb V,e=.returned (.tuple #[.pointer (some ⟨b,0,none⟩),.int .i64 0])/\SH w' b pb lb n m (List.replicate 12 0) V (List.replicate n [])/\(w.heap.size<=b/\w.heap.size<=pb/\w.heap.size<=lb/\∀ g∈bl V,w.heap.size<=g)/\Fr w.heap.size [] w w':=by
 have C:Hid (∀ _:Unit,_):=λ_=>Lw m w h3 h4
 have D:Hid (∀ w1,_):=λw1=>Za n w1 h1 h2
 have FIN:Hid (∀ u1 u2:World,PO u1 w.heap.size m (List.replicate 12 0)->Fr w.heap.size [] w u1->AB u2 (u1.heap.size+1) (Vk u1.heap.size n n) 122->AB u2 u1.heap.size ((List.replicate (n*4) (0:Int)).map (Value.int .i64)) 3->Fr u1.heap.size [] u1 u2->
  SH (u2.alloc (.cells #[.pointer (some ⟨w.heap.size,0,none⟩),.slice (some ⟨u1.heap.size+1,0,none⟩) n n] 179)) u2.heap.size w.heap.size (u1.heap.size+1) n m (List.replicate 12 0) (Vk u1.heap.size n n) (List.replicate n [])/\(w.heap.size<=u2.heap.size/\w.heap.size<=w.heap.size/\w.heap.size<=u1.heap.size+1/\∀ g∈bl (Vk u1.heap.size n n),w.heap.size<=g)/\Fr w.heap.size [] w (u2.alloc (.cells #[.pointer (some ⟨w.heap.size,0,none⟩),.slice (some ⟨u1.heap.size+1,0,none⟩) n n] 179))):=λu1 u2 p f a b g=>by
  have s1:=f.size
  have s2:=g.size
  have l1:=p.sb.lt
  refine ⟨⟨⟨?_,a.alloc _,fM (b.alloc _),by simp,by omega,by omega⟩,?_⟩,⟨by omega,by omega,by omega,λq hq=>by rw [ABm hq];omega⟩,(f.trans (g.less s1)).alloc (by omega) _⟩
  ·exact AB.new u2 [.pointer (some ⟨w.heap.size,0,none⟩),.slice (some ⟨u1.heap.size+1,0,none⟩) n n] 179
  ·exact (p.AA g l1 (by simp)).AA ((Fr.refl u2.heap.size [] u2).alloc (ADW _) _) (by omega) (by simp)
 go_enter Tryz.func33,Tryz.ntmps33
 go_wp2_with fail
 refine (C.out ()).mono ?_
 rintro e u1 ⟨rfl,p1,f1⟩
 have P1:Hid (PO u1 w.heap.size m (List.replicate 12 0)/\Fr w.heap.size [] w u1):=⟨p1,f1⟩
 clear p1 f1
 go_wp2_with fail
 refine (D.out _).mono ?_
 rintro e u2 ⟨rfl,a2,b2,f2⟩
 have FF:Hid (_/\_):=FIN.out u1 u2 P1.out.1 P1.out.2 a2 b2 f2
 clear a2 b2 f2
 go_wp2
 go_ret2
 exact ⟨_,_,_,_,rfl,FF.out⟩
end Go.Proofs.YtdlhlfpigcgapaaGreatDoor.Sta

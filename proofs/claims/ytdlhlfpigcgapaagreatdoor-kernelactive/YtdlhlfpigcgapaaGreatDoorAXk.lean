import Derived.Test.YtdlhlfpigcgapaaGreatDoorAZal
import Derived.Test.YtdlhlfpigcgapaaGreatDoorAXb
import Derived.Deep.RegionHeld3
set_option maxRecDepth 100000
set_option maxHeartbeats 16000000
set_option linter.unusedVariables false
set_option linter.unusedSimpArgs false
set_option linter.defProp false
namespace Go.Proofs.YtdlhlfpigcgapaaGreatDoor.Ek
open Go.Proofs.Tryz
open Mm
variable {h l:Nat}
def Gb (l h:Nat):Bool:=!(l ||| h==0)
def BF (l h x:Nat):Int:=if Gb l h=true then 7 else if x=0 then 2 else 0
def NQ (l h x:Nat):Nat:=if BF l h x=0 then x else l
def VI (l:Nat) (c:Int):Int:=if tb l c=true then 0 else 6
def VJ (l:Nat) (c:Int):Nat:=if tb l c=true then nt l (bv c) else l
def VK (l h:Nat) (c:Int):Nat:=if tb l c=true then h ||| bv c else h
def Jw (l h:Nat):Int:=if Gb l h=true then 0 else 6
def GR (l h:Nat):Bool:=Gb l h&&l==0
def W2 (l h:Nat):Prop:=l<18446744073709551616/\h<18446744073709551616
def or_zero (e:l ||| h=0):l=0/\h=0:=by
 have a:∀ i,(l ||| h).testBit i=false:=λi=>by rw [e,AEk]
 refine ⟨AEO λi=>?_,AEO λi=>?_⟩
 ·have:=a i
  rw [AGA,AF0] at this
  rw [this.1,AEk]
 ·have:=a i
  rw [AGA,AF0] at this
  rw [this.2,AEk]
def Ej (e:Gb l h=false):l=0/\h=0:=or_zero (by simpa [Gb] using e)
def xJ (m k i:Nat) (hk:k<18446744073709551616) (hm:m<18446744073709551616):(nt m k).testBit i=(m.testBit i&&!k.testBit i):=by
 rw [nt,ADp,Dh _ _ hk]
 by_cases hi:i<64
 ·simp [hi]
 ·rw [F7 hm (by omega)]
  simp
def I4 (m k:Nat) (c:Int) (hk:k<18446744073709551616) (hm:m<18446744073709551616):tb (nt m k) c=(tb m c&&!tb k c):=by
 by_cases h:0<=c/\c<64
 ·rw [C' _ _ h,C' _ _ h,C' _ _ h,xJ m k _ hk hm]
 ·rw [Di _ _ h,Di _ _ h]
  rfl
section
variable {l h m k:Nat} {on:Bool}
end
end Go.Proofs.YtdlhlfpigcgapaaGreatDoor.Ek
namespace Go.Proofs.YtdlhlfpigcgapaaGreatDoor.Stp
open Go.Proofs.Tryz
open Go.ChangeShapes Go.WideShapes Go.ChangeAt Go.RowKit
open Mm Ek
variable {h l s:Nat}
structure ST (w:World) (s l h:Nat):Prop where
 sb:AB w s [.int .u64 (l:Int),.int .u64 (h:Int)] 74
 w2:W2 l h
section
variable {w w1:World} {s l h:Nat}
def ST.c0 (q:ST w s l h):w.cell? ⟨s,0,none⟩=some (.int .u64 (l:Int)):=q.sb.cell 0
def ST.c1 (q:ST w s l h):w.cell? ⟨s,1,none⟩=some (.int .u64 (h:Int)):=q.sb.cell 1
def ST.f0 (q:ST w s l h):w.frozen? ⟨s,0,none⟩=false:=q.sb.free 0
def ST.f1 (q:ST w s l h):w.frozen? ⟨s,1,none⟩=false:=q.sb.free 1
def ST.heap (q:ST w s l h) (e:w1.heap=w.heap):ST w1 s l h:=⟨q.sb.heap e,q.w2⟩
def ST.AA {B:Nat} {S:List Nat} (q:ST w s l h) (k:Fr B S w w1) (hb:s<B) (hs:s∉S):ST w1 s l h:=⟨q.sb.AA k hb hs,q.w2⟩
def fR (q:ST w s l h) (x:Nat) (hx:x<18446744073709551616):ST (w.setCell ⟨s,0,none⟩ (.int .u64 (x:Int))) s x h:=⟨q.sb.set 0 _,hx,q.w2.2⟩
def xL (q:ST w s l h) (x:Nat) (hx:x<18446744073709551616):ST (w.setCell ⟨s,1,none⟩ (.int .u64 (x:Int))) s l x:=⟨q.sb.set 1 _,q.w2.1,hx⟩
end
def Kz (w:World) (q:ST w s l h):
 Calls prog 304 #[.pointer (some ⟨s,0,none⟩)] w λe w'=>e=.returned (.bool (Gb l h))/\Sm w' w:=by
 have c0:=q.c0
 have c1:=q.c1
 have C:Hid (∀ w,_):=λw=>mI l h w q.w2.1 q.w2.2
 have hz:(((l ||| h:Nat):Int) !=0)=Gb l h:=by
  unfold Gb
  cases e:(l ||| h==0)
  ·have:(l ||| h)≠0:=by simpa using e
   have:((l ||| h:Nat):Int)≠0:=by omega
   simpa using this
  ·have:(l ||| h)=0:=by simpa using e
   simp [this]
 generalize l ||| h=x at *
 generalize Gb l h=y at *
 clear q
 go_enter func304,ntmps304
 go_wp2_with fail
 go_region_held3 (λw'=>w'.cell? ⟨s,0,none⟩=some (.int .u64 (l:Int))/\w'.cell? ⟨s,1,none⟩=some (.int .u64 (h:Int))) (go_keep)
  (first | (go_at_call 341;refine (C.out _).mono ?_;rintro e w' ⟨rfl,rfl⟩))
 go_wp2
 go_ret
 exact ⟨rfl,rfl,rfl,rfl,rfl⟩
def Pz (w:World) (q:ST w s l h):
 Calls prog 175 #[.pointer (some ⟨s,0,none⟩)] w λe w'=>e=.returned (.tuple #[.func (.func 12) #[.int .u64 (l:Int)] #[],.func (.func 12) #[.int .u64 (h:Int)] #[]])/\Sm w' w:=by
 have c0:=q.c0
 have c1:=q.c1
 clear q
 go_enter func175,ntmps175
 go_wp2_with fail
 go_quiet (fail)
 go_wp2
 go_ret2
 exact ⟨rfl,rfl,rfl,rfl,rfl⟩
def P6 (c:Int) (w:World) (q:ST w s l h):
 Calls prog 109 #[.pointer (some ⟨s,0,none⟩),.int .i64 c] w λe w'=>e=.returned (.bool (tb l c))/\Sm w' w:=by
 have A:Hid (∀ _:Unit,_):=λ_=>Pz w q
 have C:Hid (∀ w,_):=λw=>As l c w q.w2.1
 generalize tb l c=y at *
 clear q
 go_enter func109,ntmps109
 go_wp2_with fail
 refine (A.out ()).mono ?_
 rintro e w1 ⟨rfl,m1⟩
 have M1:Hid (Sm w1 w):=m1
 clear m1
 go_wp2_with fail
 refine (C.out _).mono ?_
 rintro e w' ⟨rfl,rfl⟩
 go_wp2
 go_ret
 exact ⟨rfl,M1.out⟩
def Zg (c:Int) (w:World) (q:ST w s l h):
 Calls prog 110 #[.pointer (some ⟨s,0,none⟩),.int .i64 c] w λe w'=>e=.returned (.bool (tb h c))/\Sm w' w:=by
 have A:Hid (∀ _:Unit,_):=λ_=>Pz w q
 have C:Hid (∀ w,_):=λw=>As h c w q.w2.2
 generalize tb h c=y at *
 clear q
 go_enter func110,ntmps110
 go_wp2_with fail
 refine (A.out ()).mono ?_
 rintro e w1 ⟨rfl,m1⟩
 have M1:Hid (Sm w1 w):=m1
 clear m1
 go_wp2_with fail
 refine (C.out _).mono ?_
 rintro e w' ⟨rfl,rfl⟩
 go_wp2
 go_ret
 exact ⟨rfl,M1.out⟩
def Ix (w:World) (q:ST w s l h):
 Calls prog 306 #[.pointer (some ⟨s,0,none⟩)] w λe w'=>e=.returned (.bool (GR l h))/\Sm w' w:=by
 have A:Hid (∀ _:Unit,_):=λ_=>Kz w q
 have K:Hid (∀ w1,Sm w1 w->w1.cell? ⟨s,0,none⟩=some (.int .u64 (l:Int))):=λw1 e=>(q.heap e.1).c0
 have hz:((l:Int)==0)=(l==0):=by
  cases e:(l==0)
  ·have:l≠0:=by simpa using e
   have:(l:Int)≠0:=by omega
   simpa using this
  ·have:l=0:=by simpa using e
   simp [this]
 unfold GR
 generalize (l==0)=y at *
 cases e:Gb l h
 ·rw [e] at A
  rw [AEm]
  clear q e
  go_enter func306,ntmps306
  go_wp2_with fail
  refine (A.out ()).mono ?_
  rintro e w1 ⟨rfl,m1⟩
  have M1:Hid (Sm w1 w):=m1
  clear m1
  go_wp2
  go_ret
  exact ⟨rfl,M1.out⟩
 ·rw [e] at A
  rw [AEC]
  clear q e
  go_enter func306,ntmps306
  go_wp2_with fail
  refine (A.out ()).mono ?_
  rintro e w1 ⟨rfl,m1⟩
  have M1:Hid (Sm w1 w):=m1
  have c0:=K.out w1 m1
  clear m1
  go_wp2
  go_ret
  exact ⟨rfl,M1.out⟩
def Wt (x:Nat) (hx:x<18446744073709551616) (w:World) (q:ST w s l h):
 Calls prog 305 #[.pointer (some ⟨s,0,none⟩),.int .u64 (x:Int)] w λe w'=>e=.returned (.int .i64 (BF l h x))/\ST w' s (NQ l h x) h/\Fr w.heap.size [s] w w':=by
 have A:Hid (∀ _:Unit,_):=λ_=>Kz w q
 have HS:Hid (ST w s l h):=q
 have K:Hid (∀ w1,Sm w1 w->w1.cell? ⟨s,0,none⟩=some (.int .u64 (l:Int))/\w1.frozen? ⟨s,0,none⟩=false/\ST (w1.setCell ⟨s,0,none⟩ (.int .u64 (x:Int))) s x h):=λw1 e=>⟨(q.heap e.1).c0,(q.heap e.1).f0,fR (q.heap e.1) x hx⟩
 cases e:Gb l h
 ·rw [e] at A
  by_cases z:x=0
  ·rw [show BF l h x=2 by simp [BF,e,z],show NQ l h x=l by simp [NQ,BF,e,z]]
   subst z
   clear q e hx K
   go_enter func305,ntmps305
   go_wp2_with fail
   refine (A.out ()).mono ?_
   rintro e w1 ⟨rfl,m1⟩
   have M1:Hid (Sm w1 w):=m1
   clear m1
   go_wp2
   go_ret
   exact ⟨rfl,HS.out.heap M1.out.1,M1.out.fr (Fr.refl _ _ _)⟩
  ·have z2:((x:Int)==0)=false:=by
    have:(x:Int)≠0:=by omega
    simpa using this
   rw [show BF l h x=0 by simp [BF,e,z],show NQ l h x=x by simp [NQ,BF,e,z]]
   clear q e hx z
   go_enter func305,ntmps305
   go_wp2_with fail
   refine (A.out ()).mono ?_
   rintro e w1 ⟨rfl,m1⟩
   have M1:Hid (Sm w1 w):=m1
   obtain ⟨c0,f0,t0⟩:=K.out w1 m1
   have T0:Hid (ST _ s x h):=t0
   clear m1 t0
   go_wp2
   go_ret
   exact ⟨rfl,T0.out,M1.out.fr ((Fr.refl _ _ _).setCell (Or.inr (by simp)) _)⟩
 ·rw [e] at A
  rw [show BF l h x=7 by simp [BF,e],show NQ l h x=l by simp [NQ,BF,e]]
  clear q e hx K
  go_enter func305,ntmps305
  go_wp2_with fail
  refine (A.out ()).mono ?_
  rintro e w1 ⟨rfl,m1⟩
  have M1:Hid (Sm w1 w):=m1
  clear m1
  go_wp2
  go_ret
  exact ⟨rfl,HS.out.heap M1.out.1,M1.out.fr (Fr.refl _ _ _)⟩
def Zh (w:World) (q:ST w s l h):
 Calls prog 307 #[.pointer (some ⟨s,0,none⟩)] w λe w'=>e=.returned (.int .i64 (Jw l h))/\ST w' s 0 0/\Fr w.heap.size [s] w w':=by
 have A:Hid (∀ _:Unit,_):=λ_=>Kz w q
 have HS:Hid (ST w s l h):=q
 have K:Hid (∀ w1,Sm w1 w->w1.cell? ⟨s,0,none⟩=some (.int .u64 (l:Int))/\w1.cell? ⟨s,1,none⟩=some (.int .u64 (h:Int))/\w1.frozen? ⟨s,0,none⟩=false/\w1.frozen? ⟨s,1,none⟩=false/\ST ((w1.setCell ⟨s,0,none⟩ (.int .u64 0)).setCell ⟨s,1,none⟩ (.int .u64 0)) s 0 0):=λw1 e=>⟨(q.heap e.1).c0,(q.heap e.1).c1,(q.heap e.1).f0,(q.heap e.1).f1,xL (fR (q.heap e.1) 0 (by omega)) 0 (by omega)⟩
 cases e:Gb l h
 ·rw [e] at A
  rw [show Jw l h=6 by simp [Jw,e]]
  obtain ⟨rfl,rfl⟩:=Ej e
  clear q e K
  go_enter func307,ntmps307
  go_wp2_with fail
  refine (A.out ()).mono ?_
  rintro e w1 ⟨rfl,m1⟩
  have M1:Hid (Sm w1 w):=m1
  clear m1
  go_wp2
  go_ret
  exact ⟨rfl,HS.out.heap M1.out.1,M1.out.fr (Fr.refl _ _ _)⟩
 ·rw [e] at A
  rw [show Jw l h=0 by simp [Jw,e]]
  clear q e
  go_enter func307,ntmps307
  go_wp2_with fail
  refine (A.out ()).mono ?_
  rintro e w1 ⟨rfl,m1⟩
  have M1:Hid (Sm w1 w):=m1
  obtain ⟨c0,c1,f0,f1,t0⟩:=K.out w1 m1
  have T0:Hid (ST _ s 0 0):=t0
  clear m1 t0
  go_wp2
  go_ret
  exact ⟨rfl,T0.out,M1.out.fr (((Fr.refl _ _ _).setCell (Or.inr (by simp)) _).setCell (Or.inr (by simp)) _)⟩
def fS (c:Int) (w:World) (q:ST w s l h):
 Calls prog 76 #[.pointer (some ⟨s,0,none⟩),.int .i64 c] w λe w'=>e=.returned (.int .i64 (VI l c))/\ST w' s (VJ l c) (VK l h c)/\Fr w.heap.size [s] w w':=by
 have A:Hid (∀ _:Unit,_):=λ_=>P6 c w q
 have HS:Hid (ST w s l h):=q
 cases e:tb l c
 ·rw [e] at A
  rw [show VI l c=6 by simp [VI,e],show VJ l c=l by simp [VJ,e],show VK l h c=h by simp [VK,e]]
  clear q e
  go_enter func76,ntmps76
  go_wp2_with fail
  refine (A.out ()).mono ?_
  rintro e w1 ⟨rfl,m1⟩
  have M1:Hid (Sm w1 w):=m1
  clear m1
  go_wp2
  go_ret
  exact ⟨rfl,HS.out.heap M1.out.1,M1.out.fr (Fr.refl _ _ _)⟩
 ·rw [e] at A
  rw [show VI l c=0 by simp [VI,e],show VJ l c=nt l (bv c) by simp [VJ,e],show VK l h c=h ||| bv c by simp [VK,e]]
  have C1:Hid (∀ w,_):=λw=>Eu l c w q.w2.1
  have C2:Hid (∀ v w,Row w v [c]->_):=λv w r=>Et h [c] v w q.w2.2 (by simp) r
  have ew:wl h [c]=h ||| bv c:=rfl
  rw [ew] at C2
  have K:Hid (∀ w1,Sm w1 w->w1.cell? ⟨s,0,none⟩=some (.int .u64 (l:Int))/\w1.frozen? ⟨s,0,none⟩=false/\ST (w1.setCell ⟨s,0,none⟩ (.int .u64 (nt l (bv c):Nat))) s (nt l (bv c)) h):=λw1 e=>⟨(q.heap e.1).c0,(q.heap e.1).f0,fR (q.heap e.1) _ (DZ _ _)⟩
  have hx:=Vx q.w2.2 (Ei c)
  have HX:Hid (h ||| bv c<18446744073709551616):=hx
  generalize h ||| bv c=y at *
  generalize nt l (bv c)=x at *
  clear q e ew hx
  go_enter func76,ntmps76
  go_wp2_with fail
  refine (A.out ()).mono ?_
  rintro e w1 ⟨rfl,m1⟩
  have M1:Hid (Sm w1 w):=m1
  obtain ⟨c0,f0,t0⟩:=K.out w1 m1
  have T0:Hid (ST _ s x h):=t0
  clear m1 t0
  go_wp2_with fail
  refine (C1.out _).mono ?_
  rintro e w2 ⟨rfl,rfl⟩
  have c1:=T0.out.c1
  have t1:ST ((w2.setCell ⟨s,0,none⟩ (.int .u64 (x:Int))).alloc (.cells #[.int .i64 c] 3)) s x h:=T0.out.AA (S:=[]) (B:=(w2.setCell ⟨s,0,none⟩ (.int .u64 (x:Int))).heap.size) ((Fr.refl _ _ _).alloc (ADW _) _) T0.out.sb.lt (by simp)
  have T1:Hid (ST _ s x h):=t1
  have c2:=t1.c1
  have f2:=t1.f1
  have RW:Hid (Row ((w2.setCell ⟨s,0,none⟩ (.int .u64 (x:Int))).alloc (.cells #[.int .i64 c] 3)) (.slice (some ⟨(w2.setCell ⟨s,0,none⟩ (.int .u64 (x:Int))).heap.size,0,none⟩) 1 1) [c]):=If (xs:=[c]) (AB.new _ [.int .i64 c] 3) 1
  clear t1
  go_wp2_with fail
  refine (C2.out _ _ ?_).mono ?_
  ·have:=RW.out;simpa using this
  rintro e w3 ⟨rfl,rfl⟩
  have T3:Hid (ST _ s x y):=xL T1.out y HX.out
  go_wp2
  go_ret
  exact ⟨rfl,T3.out,M1.out.fr ((((Fr.refl _ _ _).setCell (Or.inr (by simp)) _).alloc (by simp [M1.out.1]) _).setCell (Or.inr (by simp)) _)⟩
end Go.Proofs.YtdlhlfpigcgapaaGreatDoor.Stp

import Derived.Test.YtdlhlfpigcgapaaGreatDoorAZal
import Derived.Test.YtdlhlfpigcgapaaGreatDoorAXp
set_option maxRecDepth 100000
set_option maxHeartbeats 16000000
set_option linter.unusedVariables false
set_option linter.unusedSimpArgs false
set_option linter.defProp false
namespace Go.Proofs.YtdlhlfpigcgapaaGreatDoor.Em
open Go.Proofs.Tryz
open Spl
open Pm
variable {L:List Int}
structure Rd (L:List Int):Prop where
 n1:1<=L.length
 n2:L.length<=64
 nn:∀ x∈L,0<=x
 le:L.sum<=1000
def SP:∀ {L:List Int},(∀ x∈L,0<=x)->0<=L.sum
 | [],_=>by simp
 | a::t,h=>by
  have i:=SP (L:=t) λx hx=>h x (by simp [hx])
  have j:=h a (by simp)
  rw [AFD]
  omega
def SQ:∀ {L:List Int},(∀ x∈L,0<=x)->∀ x∈L,x<=L.sum
 | [],_,x,h=>by simp at h
 | a::t,h,x,hx=>by
  have i:=SP (L:=t) λx hx=>h x (by simp [hx])
  have j:=h a (by simp)
  rw [AFD]
  rcases AD0.1 hx with e | e
  ·omega
  ·have:=SQ (L:=t) (λx hx=>h x (by simp [hx])) x e
   omega
def Rd.pt (h:Rd L):Pt L:=⟨h.n1,h.n2,λx hx=>by have:=h.nn x hx;have:=SQ h.nn x hx;have:=h.le;unfold A6;omega⟩
def Rd.sum (h:Rd L):0<=L.sum/\L.sum<=1000:=⟨SP h.nn,h.le⟩
def fO (L:List Int) (i:Nat) (h:i<L.length):L.getD i 0∈L:=by
 rw [ADY,ADZ h]
 exact AEl h
def Rd.at (h:Rd L) (i:Nat) (hi:i<L.length):0<=L.getD i 0/\L.getD i 0<=L.sum/\L.getD i 0<=1000:=by
 have a:=fO L i hi
 have b:=SQ h.nn _ a
 exact ⟨h.nn _ a,b,by have:=h.le;omega⟩
def Rd.fit (h:Rd L):fe L.sum=0/\fv L.sum=L.sum:=ED (by have:=h.sum;unfold A6;omega)
def VG:∀ m:Nat,(List.replicate m (0:Int)).sum=0
 | 0=>by simp
 | m+1=>by rw [AEw,AFD,VG m];omega
def xH (m:Nat) (h1:1<=m) (h2:m<=64):Rd (List.replicate m 0):=
 ⟨by simpa using h1,by simpa using h2,λx hx=>by rw [AFb hx];omega,by rw [VG];omega⟩
def Zd (h:Rd L) (i:Nat) (hi:i<L.length) (x:Int) (h0:0<=x) (hs:L.sum+x-L.getD i 0<=1000):Rd (L.set i x):=by
 refine ⟨by simpa using h.n1,by simpa using h.n2,λy hy=>?_,by rw [Fw L i x hi];exact hs⟩
 rcases AE9 hy with g | g
 ·exact h.nn y g
 ·exact g ▸ h0
def Cy (st:Int) (L:List Int) (c:Int):Int:=if ic L c=true then if st=0 then if 1000<=L.sum then 5 else 0 else 7 else 3
def ID (st:Int) (L:List Int) (c:Int):List Int:=if Cy st L c=0 then L.set c.toNat (at' L c+1) else L
def JN (L:List Int) (c:Int):Int:=if ic L c=true then if at' L c=0 then 12 else 0 else 3
def Jv (L:List Int) (c:Int):List Int:=if JN L c=0 then L.set c.toNat (at' L c-1) else L
def Aa (st:Int):Int:=if st=0 then 0 else 7
def SR (st:Int):Int:=if st=0 then 1 else st
def Bg (st:Int) (L:List Int):Int:=if st=1 then if 0<L.sum then 7 else 0 else 6
def Py (st:Int) (L:List Int):Int:=if Bg st L=0 then 2 else st
def Jw (st:Int):Int:=if st=0 then 6 else 0
def ABn {st:Int} (h:Rd L) (c:Int):Rd (ID st L c):=by
 unfold ID Cy
 cases i:ic L c
 ·simpa using h
 ·by_cases s:st=0
  ·by_cases q:1000<=L.sum
   ·simpa [s,q] using h
   ·obtain ⟨_,_,a⟩:=DJ i
    have:=h.at c.toNat a
    simp only [AHn,s,AHh q]
    exact Zd h _ a _ (by unfold at';omega) (by unfold at';omega)
  ·simpa [s] using h
def ABo (h:Rd L) (c:Int):Rd (Jv L c):=by
 unfold Jv JN
 cases i:ic L c
 ·simpa using h
 ·by_cases s:at' L c=0
  ·simpa [s] using h
  ·obtain ⟨_,_,a⟩:=DJ i
   have:=h.at c.toNat a
   have e:at' L c=L.getD c.toNat 0:=rfl
   have hl:=h.le
   simp only [AHn,AHh s]
   exact Zd h _ a _ (by omega) (by omega)
end Go.Proofs.YtdlhlfpigcgapaaGreatDoor.Em
namespace Go.Proofs.YtdlhlfpigcgapaaGreatDoor.CJ
open Go.Proofs.Tryz
open Spl
open Go.ChangeShapes Go.WideShapes Go.ChangeAt Go.RowKit
open Pm Em
variable {L:List Int} {st:Int} {b g:Nat}
structure GT (w:World) (b g:Nat) (st:Int) (L:List Int):Prop where
 sb:AB w b [.int .i64 st,.slice (some ⟨g,0,none⟩) L.length L.length] 181
 sg:AB w g (L.map (Value.int .i64)) 2
 rd:Rd L
section
variable {w w1:World} {b g:Nat} {st:Int} {L:List Int}
def GT.c0 (h:GT w b g st L):w.cell? ⟨b,0,none⟩=some (.int .i64 st):=h.sb.cell 0
def GT.c1 (h:GT w b g st L):w.cell? ⟨b,1,none⟩=some (.slice (some ⟨g,0,none⟩) L.length L.length):=h.sb.cell 1
def GT.f0 (h:GT w b g st L):w.frozen? ⟨b,0,none⟩=false:=h.sb.free 0
def GT.ne (h:GT w b g st L):b≠g:=h.sb.ne h.sg (by decide)
def GT.AA {B:Nat} {S:List Nat} (h:GT w b g st L) (k:Fr B S w w1) (hb:b<B/\g<B) (hs:b∉S/\g∉S):GT w1 b g st L:=
 ⟨h.sb.AA k hb.1 hs.1,h.sg.AA k hb.2 hs.2,h.rd⟩
def GT.at (h:GT w b g st L) (i:Nat) (hi:i<L.length):w.cell? ⟨g,i,none⟩=some (.int .i64 (L.getD i 0)):=by
 rw [h.sg.cell i,Ae L i hi]
def GT.len (h:GT w b g st L):(L.length:Int)<=64:=by have:=h.rd.n2;omega
def xI (h:GT w b g st L) (i:Nat) (x:Int) (hr:Rd (L.set i x)):GT (w.setCell ⟨g,i,none⟩ (.int .i64 x)) b g st (L.set i x):=by
 refine ⟨?_,?_,hr⟩
 ·have:=h.sb.other (p:=⟨g,i,none⟩) h.ne (.int .i64 x)
  simpa using this
 ·have:=h.sg.set i (.int .i64 x)
  rwa [<- AFT] at this
def Wp (h:GT w b g st L) (x:Int):GT (w.setCell ⟨b,0,none⟩ (.int .i64 x)) b g x L:=
 ⟨h.sb.set 0 (.int .i64 x),h.sg.other (p:=⟨b,0,none⟩) (λe=>h.ne e.symm) _,h.rd⟩
end
def Ec (m:Nat) (w:World) (h1:(1:Int)<=m) (h2:(m:Int)<=64):
 Calls prog 34 #[.int .i64 (m:Int)] w λe w'=>e=.returned (.tuple #[.pointer (some ⟨w.heap.size+1,0,none⟩),.int .i64 0])/\AB w' (w.heap.size+1) [.slice (some ⟨w.heap.size,0,none⟩) m m] 130/\AB w' w.heap.size ((List.replicate m (0:Int)).map (Value.int .i64)) 2/\w'.heap.size=w.heap.size+2/\Fr w.heap.size [] w w':=by
 have hmk:=run_make_row' (P:=prog) 128 2 (.int .i64 0) 8 underlying128 Tryz.Qj rfl .i64 .i64 m (by omega) (by omega)
 have F:Hid (∀ o1 o2,Fr w.heap.size [] w ((w.alloc o1).alloc o2)):=λo1 o2=>((Fr.refl _ _ _).alloc (ADW _) o1).alloc (by simp) o2
 go_enter func34,ntmps34
 go_wp2
 go_ret2
 refine ⟨rfl,?_,?_,by simp,F.out _ _⟩
 ·have:=AB.new (w.alloc (Obj.cells (madeCells #[Value.int IntKind.i64 0] m) 2)) [.slice (some ⟨w.heap.size,0,none⟩) m m] 130
  simpa using this
 ·rw [ES]
  exact (AB.new w _ 2).alloc _
def BR (c:Int) (w:World) (h:GT w b g st L):
 Calls prog 187 #[.pointer (some ⟨b,1,none⟩),.int .i64 c] w λe w'=>e=.returned (.bool (ic L c))/\w'=w:=by
 have c0:=h.c1
 by_cases q:0<=c
 ·by_cases q2:c<(L.length:Int)
  ·rw [show ic L c=true from AHj ⟨q,q2⟩]
   clear h
   generalize L.length=l at *
   go_enter func187,ntmps187
   go_wp2
   go_ret
   exact ⟨rfl,rfl⟩
  ·rw [show ic L c=false from AHk (by omega)]
   clear h
   generalize L.length=l at *
   go_enter func187,ntmps187
   go_wp2
   go_ret
   exact ⟨rfl,rfl⟩
 ·rw [show ic L c=false from AHk (by omega)]
  clear h
  generalize L.length=l at *
  go_enter func187,ntmps187
  go_wp2
  go_ret
  exact ⟨rfl,rfl⟩
def IC {a b c d:Int} (h:a=b) (g:c=d):Ending.returned (.tuple #[.int .i64 a,.int .i64 c])=.returned (.tuple #[.int .i64 b,.int .i64 d]):=by rw [h,g]
def L' (a b:Int) (w:World) (ha:A6 a) (hb:A6 b):
 Calls prog 188 #[.int .i64 a,.int .i64 b] w λe w'=>e=.returned (.tuple #[.int .i64 (fv (a+b)),.int .i64 (fe (a+b))])/\w'=w:=by
 obtain ⟨ha1,ha2⟩:=ha
 obtain ⟨hb1,hb2⟩:=hb
 go_enter func188,ntmps188
 go_wp2
 all_goals
  go_ret2
  refine ⟨IC ?_ ?_,rfl⟩ <;> (simp only [fv,fe,wrap64] at *;split <;> omega)
def fP (c:Int) (w:World) (h:GT w b g st L):
 Calls prog 359 #[.pointer (some ⟨b,1,none⟩),.int .i64 c] w λe w'=>e=.returned (.tuple #[.int .i64 (Jt L c),.int .i64 (NO L c)])/\w'=w:=by
 have c0:=h.c1
 have hl:=h.len
 have C:Hid (∀ _:Unit,_):=λ_=>BR c w h
 cases i:ic L c with
 | true=>
  rw [i] at C
  rw [show Jt L c=at' L c from AHi i,show NO L c=0 from AHi i]
  obtain ⟨k,rfl⟩:=AD8 (DJ i).1
  have hk:(k:Int)<L.length:=(DJ i).2.1
  have ck:=h.at k (by omega)
  rw [show at' L (k:Int)=L.getD k 0 by unfold at';rw [AD4]]
  clear h i
  generalize L.getD k 0=x at *
  generalize L.length=l at *
  go_enter func359,ntmps359
  go_wp2_with fail
  refine (C.out ()).mono ?_
  rintro e w' ⟨rfl,rfl⟩
  go_wp2
  go_ret2
  exact ⟨rfl,rfl⟩
 | false=>
  rw [i] at C
  rw [show Jt L c=0 from AHh (by rw [i];simp),show NO L c=3 from AHh (by rw [i];simp)]
  clear h i
  generalize L.length=l at *
  go_enter func359,ntmps359
  go_wp2_with fail
  refine (C.out ()).mono ?_
  rintro e w' ⟨rfl,rfl⟩
  go_wp2
  go_ret2
  exact ⟨rfl,rfl⟩
def SU {k:Nat} (n:Int) (w:World) (h:GT w b g st L) (hk:(k:Int)<L.length) (hn:A6 n) (hr:Rd (L.set k (L.getD k 0+n))):
 Calls prog 128 #[.pointer (some ⟨b,1,none⟩),.int .i64 (k:Int),.int .i64 n] w λe w'=>e=.returned (.int .i64 0)/\GT w' b g st (L.set k (L.getD k 0+n))/\Fr w.heap.size [g] w w':=by
 have c0:=h.c1
 have hl:=h.len
 have i:ic L k=true:=AHj ⟨by omega,hk⟩
 have C:Hid (∀ _:Unit,_):=λ_=>BR k w h
 rw [i] at C
 have a0:=h.rd.at k (by omega)
 have a1:=hr.at k (by simpa using (by omega:k<L.length))
 have e1:(L.set k (L.getD k 0+n)).getD k 0=L.getD k 0+n:=by
  rw [ADY,AD6,AHi rfl,AHi (by omega)]
  rfl
 rw [e1] at a1
 have D:Hid (∀ _:Unit,_):=λ_=>L' (L.getD k 0) n w (by unfold A6;omega) hn
 rw [(ED (n:=L.getD k 0+n) (by unfold A6;omega)).1,(ED (n:=L.getD k 0+n) (by unfold A6;omega)).2] at D
 have ck:=h.at k (by omega)
 have fk:w.frozen? ⟨g,k,none⟩=false:=h.sg.free k
 have ST:Hid (GT (w.setCell ⟨g,k,none⟩ (.int .i64 (L.getD k 0+n))) b g st (L.set k (L.getD k 0+n))):=xI h k _ hr
 clear h i hr hn a0 a1 e1
 obtain ⟨s,hs⟩:∃ s,L.getD k 0+n=s:=⟨_,rfl⟩
 rw [hs] at D ST ⊢
 clear hs
 generalize L.getD k 0=x at *
 generalize L.length=l at *
 go_enter func128,ntmps128
 go_wp2_with fail
 refine (C.out ()).mono ?_
 rintro e w' ⟨rfl,rfl⟩
 go_wp2_with fail
 refine (D.out ()).mono ?_
 rintro e w' ⟨rfl,rfl⟩
 go_wp2
 go_ret
 exact ⟨rfl,ST.out,(Fr.refl _ _ _).setCell (Or.inr (by simp)) _⟩
def Ju (x y:Int) (hx:0<=x) (hy:0<=y) (w:World):
 (callFunc 62 #[.int .u64 x,.int .u64 y,.int .u64 0]).run prog w=.ok (.value (.tuple #[.int .u64 ((x+y+0) % 18446744073709551616),.int .u64 ((x+y+0) / 18446744073709551616)])) w:=by
 rw [run_callFunc_extern func62 (by kernel_rfl) (by kernel_rfl) (by kernel_rfl) (e:=add64Entry) (by kernel_rfl),run_add64 x y 0 hx hy (by omega) (by omega)]
 rfl
def E8 (n:Int) (w:World) (hn:A6 n):Calls prog 63 #[.int .i64 n] w λe w'=>e=.returned (.int .u64 (sg n))/\w'=w:=by
 obtain ⟨h1,h2⟩:=hn
 go_enter func63,ntmps63
 go_wp2
 go_ret
 refine ⟨AHo (λz=>Ending.returned (.int .u64 z)) (?_:IntKind.u64.wrap (n / 9223372036854775808)=sg n),rfl⟩
 rw [IntKind.wrap_u64]
 unfold sg
 split <;> omega
def NP (S:Int):0<=lo S:=by unfold lo;omega
def fQ (w:World) (h:GT w b g st L):
 Calls prog 24 #[.pointer (some ⟨b,1,none⟩)] w λe w'=>e=.returned (.tuple #[.int .i64 (fv L.sum),.int .i64 (fe L.sum)])/\w'=w:=by
 have c0:=h.c1
 have hl:=h.len
 have HA:Hid (∀ i,i<L.length->w.cell? ⟨g,i,none⟩=some (.int .i64 (L.getD i 0))):=λi hi=>h.at i hi
 have HP:Hid (Pt L):=h.rd.pt
 obtain ⟨n,hn⟩:∃ n,L.length=n:=⟨_,rfl⟩
 have HN:Hid (L.length=n):=hn
 obtain ⟨r1,hr1⟩:∃ r,fv L.sum=r:=⟨_,rfl⟩
 obtain ⟨r2,hr2⟩:∃ r,fe L.sum=r:=⟨_,rfl⟩
 have R1:Hid (fv L.sum=r1):=hr1
 have R2:Hid (fe L.sum=r2):=hr2
 rw [hn] at c0 hl
 rw [hr1,hr2]
 clear h hn hr1 hr2
 go_enter func24,ntmps24
 go_wp2
 go_loop [4,5,17] (λh l i=>∃ (k:Nat) (H Q:Int),(k:Int)<=n/\Hid (hi (L.take k).sum=H/\lo (L.take k).sum=Q)/\h=.int .u64 H/\l=.int .u64 Q/\i=.int .i64 k) (λ_ _ i=>n-(intOf i).toNat)
 case atStart=>exact ⟨0,0,0,by omega,⟨by simp [hi],by simp [lo]⟩,rfl,rfl,rfl⟩
 case round=>
  obtain ⟨k,H,Q,hk,hHQ,rfl,rfl,rfl⟩:=hrel
  by_cases c:(k:Int)<n
  ·have hkl:k<L.length:=by have:=HN.out;omega
   have ck:=HA.out k hkl
   have hx:A6 (L.getD k 0):=by
    refine HP.out.rg _ ?_
    rw [ADY,ADZ hkl]
    exact AEl hkl
   have SG:Hid (∀ _:Unit,_):=λ_=>E8 (L.getD k 0) w hx
   have AD:=Ju Q (lo (L.getD k 0)) (by rw [<- hHQ.out.2];exact NP _) (NP _) w
   have e1:(Q+lo (L.getD k 0)+0) % 18446744073709551616=lo (L.take (k+1)).sum:=by rw [Ga L k hkl,<- hHQ.out.2];exact VE _ _
   have e2:(H+(sg (L.getD k 0)+(Q+lo (L.getD k 0)+0) / 18446744073709551616) % 18446744073709551616) % 18446744073709551616=hi (L.take (k+1)).sum:=by rw [Ga L k hkl,<- hHQ.out.2,<- hHQ.out.1];exact VF _ _ hx
   rw [e1] at AD
   have cv:IntKind.u64.wrap (L.getD k 0)=lo (L.getD k 0):=by rw [IntKind.wrap_u64];rfl
   obtain ⟨C,hC⟩:∃ C,(Q+lo (L.getD k 0)+0) / 18446744073709551616=C:=⟨_,rfl⟩
   rw [hC] at AD e2
   obtain ⟨z,hz⟩:∃ z,IntKind.u64.wrap (sg (L.getD k 0)+C)=z:=⟨_,rfl⟩
   have w2:IntKind.u64.wrap (H+z)=hi (L.take (k+1)).sum:=by rw [<- hz,IntKind.wrap_u64,IntKind.wrap_u64];exact e2
   obtain ⟨H2,hH2⟩:∃ H2,hi (L.take (k+1)).sum=H2:=⟨_,rfl⟩
   obtain ⟨Q2,hQ2⟩:∃ Q2,lo (L.take (k+1)).sum=Q2:=⟨_,rfl⟩
   have NX:Hid (hi (L.take (k+1)).sum=H2/\lo (L.take (k+1)).sum=Q2):=⟨hH2,hQ2⟩
   rw [hQ2] at AD
   rw [hH2] at w2
   clear hHQ hx e1 e2 hC hH2 hQ2 hkl
   generalize lo (L.getD k 0)=y at *
   generalize sg (L.getD k 0)=q at *
   generalize L.getD k 0=x at *
   go_wp2_with fail
   refine (SG.out ()).mono ?_
   rintro e w' ⟨rfl,rfl⟩
   go_wp2
   go_round
   case rel=>exact ⟨k+1,H2,Q2,by omega,NX,rfl,rfl,by go_num⟩
   case measure=>simp [intOf];omega
  ·have ek:L.take k=L:=AFS (by have:=HN.out;omega)
   rw [ek] at hHQ
   have bd:=Zb HP.out L.length (ADW _)
   rw [AEV] at bd
   have hl3:(L.length:Int)<=64:=by have:=HP.out.n2;omega
   obtain ⟨x,hx⟩:∃ x,(lo L.sum+9223372036854775808) % 18446744073709551616-9223372036854775808=x:=⟨_,rfl⟩
   have cx:wrap64 Q=x:=by rw [<- hHQ.out.2,<- hx,wrap64]
   have ix:A6 x:=by rw [<- hx];unfold A6;omega
   have SG:Hid (∀ _:Unit,_):=λ_=>E8 x w ix
   rcases fits L.sum (by omega) (by omega) x hx.symm with ⟨f1,f2,f3⟩ | ⟨f1,f3⟩
   ·have a1:r1=x:=by rw [<- R1.out,(ED f1).2,f2]
    have a2:r2=0:=by rw [<- R2.out,(ED f1).1]
    subst a1
    subst a2
    rw [hHQ.out.1] at f3
    clear hHQ bd hl3 hx ix f1 f2 ek R1 R2
    generalize sg r1=q at *
    go_wp2_with fail
    refine (SG.out ()).mono ?_
    rintro e w' ⟨rfl,rfl⟩
    go_wp2
    go_ret2
    exact ⟨rfl,rfl⟩
   ·have a1:r1=0:=by rw [<- R1.out,(Fi f1).2]
    have a2:r2=16:=by rw [<- R2.out,(Fi f1).1]
    subst a1
    subst a2
    rw [hHQ.out.1] at f3
    clear hHQ bd hl3 hx ix f1 ek R1 R2
    generalize sg x=q at *
    go_wp2_with fail
    refine (SG.out ()).mono ?_
    rintro e w' ⟨rfl,rfl⟩
    go_wp2
    go_ret2
    exact ⟨rfl,rfl⟩
def GZ (m:Nat) (w:World) (h1:(1:Int)<=m) (h2:(m:Int)<=64):
 Calls prog 35 #[.int .i64 (m:Int)] w λe w'=>e=.returned (.tuple #[.pointer (some ⟨w.heap.size+2,0,none⟩),.int .i64 0])/\GT w' (w.heap.size+2) w.heap.size 0 (List.replicate m 0)/\w'.heap.size=w.heap.size+3/\Fr w.heap.size [] w w':=by
 have C:Hid (∀ _:Unit,_):=λ_=>Ec m w h1 h2
 have G:Hid (Rd (List.replicate m 0)):=xH m (by omega) (by omega)
 have LM:Hid ((List.replicate m (0:Int)).length=m):=AED
 obtain ⟨s,hs⟩:∃ s,w.heap.size=s:=⟨_,rfl⟩
 have HS:Hid (w.heap.size=s):=hs
 rw [hs] at C ⊢
 clear h1 h2 hs
 go_enter func35,ntmps35
 go_wp2_with fail
 refine (C.out ()).mono ?_
 rintro e w' ⟨rfl,b1,b2,sz,f⟩
 have c1:w'.cell? ⟨s+1,0,none⟩=some (.slice (some ⟨s,0,none⟩) m m):=b1.cell 0
 have B2:Hid (AB w' s _ _):=b2
 have SZ:Hid (w'.heap.size=s+2):=sz
 have F:Hid (Fr s [] w w'):=f
 clear b1 b2 f sz C
 go_wp2
 go_ret2
 have sz:=SZ.out
 refine ⟨by rw [sz];rfl,⟨?_,?_,G.out⟩,by simp [sz],F.out.alloc (by omega) _⟩
 ·rw [LM.out,<- sz]
  exact AB.new w' [.int .i64 0,.slice (some ⟨s,0,none⟩) m m] _
 ·exact B2.out.alloc _
def VH (c:Int) (w:World) (h:GT w b g st L):
 Calls prog 340 #[.pointer (some ⟨b,0,none⟩),.int .i64 c] w λe w'=>e=.returned (.tuple #[.int .i64 (Jt L c),.int .i64 (NO L c)])/\w'=w:=by
 have C:Hid (∀ _:Unit,_):=λ_=>fP c w h
 clear h
 generalize Jt L c=x at *
 generalize NO L c=y at *
 go_enter func340,ntmps340
 go_wp2_with fail
 refine (C.out ()).mono ?_
 rintro e w' ⟨rfl,rfl⟩
 go_wp2
 go_ret2
 exact ⟨rfl,rfl⟩
def Jy (w:World) (h:GT w b g st L):
 Calls prog 300 #[.pointer (some ⟨b,0,none⟩)] w λe w'=>e=.returned (.int .i64 L.sum)/\w'=w:=by
 have C:Hid (∀ _:Unit,_):=λ_=>fQ w h
 rw [h.rd.fit.1,h.rd.fit.2] at C
 clear h
 generalize L.sum=x at *
 go_enter func300,ntmps300
 go_wp2_with fail
 refine (C.out ()).mono ?_
 rintro e w' ⟨rfl,rfl⟩
 go_wp2
 go_ret
 exact ⟨rfl,rfl⟩
def Ze (w:World) (h:GT w b g st L):
 Calls prog 338 #[.pointer (some ⟨b,0,none⟩)] w λe w'=>e=.returned (.int .i64 (Aa st))/\GT w' b g (SR st) L/\Fr w.heap.size [b] w w':=by
 have c0:=h.c0
 have f0:=h.f0
 have HS:Hid (GT w b g st L):=h
 have ST:Hid (GT (w.setCell ⟨b,0,none⟩ (.int .i64 1)) b g 1 L):=Wp h 1
 clear h
 by_cases s:st=0
 ·rw [show Aa st=0 from AHi s,show SR st=1 from AHi s]
  subst s
  go_enter func338,ntmps338
  go_wp2
  go_ret
  exact ⟨rfl,ST.out,(Fr.refl _ _ _).setCell (Or.inr (by simp)) _⟩
 ·rw [show Aa st=7 from AHh s,show SR st=st from AHh s]
  have s2:(st !=0)=true:=by simpa using s
  clear s
  go_enter func338,ntmps338
  go_wp2
  go_ret
  exact ⟨rfl,HS.out,Fr.refl _ _ _⟩
def Zf (w:World) (h:GT w b g st L):
 Calls prog 127 #[.pointer (some ⟨b,0,none⟩)] w λe w'=>e=.returned (.int .i64 (Jw st))/\GT w' b g 0 L/\Fr w.heap.size [b] w w':=by
 have c0:=h.c0
 have f0:=h.f0
 have HS:Hid (GT w b g st L):=h
 have ST:Hid (GT (w.setCell ⟨b,0,none⟩ (.int .i64 0)) b g 0 L):=Wp h 0
 clear h
 by_cases s:st=0
 ·rw [show Jw st=6 from AHi s]
  subst s
  go_enter func127,ntmps127
  go_wp2
  go_ret
  exact ⟨rfl,HS.out,Fr.refl _ _ _⟩
 ·rw [show Jw st=0 from AHh s]
  have s2:(st==0)=false:=by simpa using s
  clear s
  go_enter func127,ntmps127
  go_wp2
  go_ret
  exact ⟨rfl,ST.out,(Fr.refl _ _ _).setCell (Or.inr (by simp)) _⟩
def Jo (w:World) (h:GT w b g st L):
 Calls prog 239 #[.pointer (some ⟨b,0,none⟩)] w λe w'=>e=.returned (.int .i64 (Bg st L))/\GT w' b g (Py st L) L/\Fr w.heap.size [b] w w':=by
 have c0:=h.c0
 have f0:=h.f0
 have HS:Hid (GT w b g st L):=h
 have ST:Hid (GT (w.setCell ⟨b,0,none⟩ (.int .i64 2)) b g 2 L):=Wp h 2
 have C:Hid (∀ _:Unit,_):=λ_=>Jy w h
 clear h
 by_cases s:st=1
 ·subst s
  by_cases q:0<L.sum
  ·rw [show Bg 1 L=7 by simp [Bg,q],show Py 1 L=1 by simp [Py,Bg,q]]
   generalize L.sum=x at *
   go_enter func239,ntmps239
   go_wp2_with fail
   refine (C.out ()).mono ?_
   rintro e w' ⟨rfl,rfl⟩
   go_wp2
   go_ret
   exact ⟨rfl,HS.out,Fr.refl _ _ _⟩
  ·rw [show Bg 1 L=0 by simp [Bg,q],show Py 1 L=2 by simp [Py,Bg,q]]
   generalize L.sum=x at *
   go_enter func239,ntmps239
   go_wp2_with fail
   refine (C.out ()).mono ?_
   rintro e w' ⟨rfl,rfl⟩
   go_wp2
   go_ret
   exact ⟨rfl,ST.out,(Fr.refl _ _ _).setCell (Or.inr (by simp)) _⟩
 ·rw [show Bg st L=6 from AHh s,show Py st L=st by simp [Py,Bg,s]]
  have s2:(st !=1)=true:=by simpa using s
  clear s
  go_enter func239,ntmps239
  go_wp2
  go_ret
  exact ⟨rfl,HS.out,Fr.refl _ _ _⟩
def Wq (c:Int) (w:World) (h:GT w b g st L):
 Calls prog 293 #[.pointer (some ⟨b,0,none⟩),.int .i64 c] w λe w'=>e=.returned (.int .i64 (Cy st L c))/\GT w' b g st (ID st L c)/\Fr w.heap.size [g] w w':=by
 have c0:=h.c0
 have HS:Hid (GT w b g st L):=h
 have C:Hid (∀ _:Unit,_):=λ_=>VH c w h
 have D:Hid (∀ _:Unit,_):=λ_=>Jy w h
 cases i:ic L c with
 | false=>
  rw [show NO L c=3 from AHh (by rw [i];simp)] at C
  rw [show Cy st L c=3 from AHh (by rw [i];simp),show ID st L c=L by simp [ID,Cy,i]]
  clear h i
  generalize Jt L c=x at *
  go_enter func293,ntmps293
  go_wp2_with fail
  refine (C.out ()).mono ?_
  rintro e w' ⟨rfl,rfl⟩
  go_wp2
  go_ret
  exact ⟨rfl,HS.out,Fr.refl _ _ _⟩
 | true=>
  rw [show NO L c=0 from AHi i] at C
  by_cases s:st=0
  ·subst s
   by_cases q:1000<=L.sum
   ·rw [show Cy 0 L c=5 by simp [Cy,i,q],show ID 0 L c=L by simp [ID,Cy,i,q]]
    clear h i
    generalize Jt L c=x at *
    generalize L.sum=y at *
    go_enter func293,ntmps293
    go_wp2_with fail
    refine (C.out ()).mono ?_
    rintro e w' ⟨rfl,rfl⟩
    go_wp2_with fail
    refine (D.out ()).mono ?_
    rintro e w' ⟨rfl,rfl⟩
    go_wp2
    go_ret
    exact ⟨rfl,HS.out,Fr.refl _ _ _⟩
   ·have e0:Cy 0 L c=0:=by simp [Cy,i,q]
    have RD:=ABn h.rd c (st:=0)
    rw [show ID 0 L c=L.set c.toNat (at' L c+1) from AHi e0] at RD ⊢
    rw [e0]
    obtain ⟨k,rfl⟩:=AD8 (DJ i).1
    rw [AD4,show at' L (k:Int)=L.getD k 0 by unfold at';rw [AD4]] at RD ⊢
    have A:Hid (∀ _:Unit,_):=λ_=>SU 1 w h (DJ i).2.1 (by unfold A6;omega) RD
    clear h i RD e0
    generalize Jt L k=x at *
    generalize L.sum=y at *
    generalize L.set k (L.getD k 0+1)=M at *
    go_enter func293,ntmps293
    go_wp2_with fail
    refine (C.out ()).mono ?_
    rintro e w' ⟨rfl,rfl⟩
    go_wp2_with fail
    refine (D.out ()).mono ?_
    rintro e w' ⟨rfl,rfl⟩
    go_wp2_with fail
    refine (A.out ()).mono ?_
    rintro e w1 ⟨rfl,s1,f1⟩
    go_wp2
    go_ret
    exact ⟨rfl,s1,f1⟩
  ·rw [show Cy st L c=7 by simp [Cy,i,s],show ID st L c=L by simp [ID,Cy,i,s]]
   have s2:(st !=0)=true:=by simpa using s
   clear h i s
   generalize Jt L c=x at *
   go_enter func293,ntmps293
   go_wp2_with fail
   refine (C.out ()).mono ?_
   rintro e w' ⟨rfl,rfl⟩
   go_wp2
   go_ret
   exact ⟨rfl,HS.out,Fr.refl _ _ _⟩
def Ws (c:Int) (w:World) (h:GT w b g st L):
 Calls prog 295 #[.pointer (some ⟨b,0,none⟩),.int .i64 c] w λe w'=>e=.returned (.int .i64 (JN L c))/\GT w' b g st (Jv L c)/\Fr w.heap.size [g] w w':=by
 have HS:Hid (GT w b g st L):=h
 have C:Hid (∀ _:Unit,_):=λ_=>VH c w h
 cases i:ic L c with
 | false=>
  rw [show NO L c=3 from AHh (by rw [i];simp)] at C
  rw [show JN L c=3 from AHh (by rw [i];simp),show Jv L c=L by simp [Jv,JN,i]]
  clear h i
  generalize Jt L c=x at *
  go_enter func295,ntmps295
  go_wp2_with fail
  refine (C.out ()).mono ?_
  rintro e w' ⟨rfl,rfl⟩
  go_wp2
  go_ret
  exact ⟨rfl,HS.out,Fr.refl _ _ _⟩
 | true=>
  rw [show NO L c=0 from AHi i,show Jt L c=at' L c from AHi i] at C
  by_cases q:at' L c=0
  ·rw [show JN L c=12 by simp [JN,i,q],show Jv L c=L by simp [Jv,JN,i,q]]
   rw [q] at C
   clear h i q
   go_enter func295,ntmps295
   go_wp2_with fail
   refine (C.out ()).mono ?_
   rintro e w' ⟨rfl,rfl⟩
   go_wp2
   go_ret
   exact ⟨rfl,HS.out,Fr.refl _ _ _⟩
  ·have e0:JN L c=0:=by simp [JN,i,q]
   have RD:=ABo h.rd c
   rw [show Jv L c=L.set c.toNat (at' L c-1) from AHi e0] at RD ⊢
   rw [e0]
   obtain ⟨k,rfl⟩:=AD8 (DJ i).1
   rw [AD4,show at' L (k:Int)=L.getD k 0 by unfold at';rw [AD4]] at RD
   rw [AD4,show at' L (k:Int)-1=L.getD k 0+(-1) by unfold at';rw [AD4];omega]
   have A:Hid (∀ _:Unit,_):=λ_=>SU (-1) w h (DJ i).2.1 (by unfold A6;omega) (by rw [show L.getD k 0+(-1)=L.getD k 0-1 by omega];exact RD)
   have q2:(at' L k==0)=false:=by simpa using q
   clear h i RD e0 q
   generalize L.set k (L.getD k 0+(-1))=M at *
   generalize at' L k=x at *
   go_enter func295,ntmps295
   go_wp2_with fail
   refine (C.out ()).mono ?_
   rintro e w' ⟨rfl,rfl⟩
   go_wp2_with fail
   refine (A.out ()).mono ?_
   rintro e w1 ⟨rfl,s1,f1⟩
   go_wp2
   go_ret
   exact ⟨rfl,s1,f1⟩
end Go.Proofs.YtdlhlfpigcgapaaGreatDoor.CJ

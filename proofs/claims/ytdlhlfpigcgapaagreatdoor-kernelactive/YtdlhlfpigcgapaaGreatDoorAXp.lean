import Derived.Test.YtdlhlfpigcgapaaGreatDoorAZal
import Derived.Test.YtdlhlfpigcgapaaGreatDoorAXa
import Derived.Laws.Externs
set_option maxRecDepth 100000
set_option maxHeartbeats 16000000
set_option linter.unusedVariables false
set_option linter.unusedSimpArgs false
set_option linter.defProp false
namespace Go.Proofs.YtdlhlfpigcgapaaGreatDoor.Pm
open Go.Proofs.Tryz
variable {L:List Int} {c n:Int}
def fv (n:Int):Int:=if -9223372036854775808<=n/\n<=9223372036854775807 then n else 0
def fe (n:Int):Int:=if -9223372036854775808<=n/\n<=9223372036854775807 then 0 else 16
def ic (L:List Int) (c:Int):Bool:=decide (0<=c/\c<(L.length:Int))
def at' (L:List Int) (c:Int):Int:=L.getD c.toNat 0
def BA (L:List Int) (c n:Int):Int:=if ic L c=true then fe (at' L c+n) else 3
def Dn (L:List Int) (c n:Int):List Int:=if ic L c=true/\fe (at' L c+n)=0 then L.set c.toNat (at' L c+n) else L
def JM (L:List Int) (f t:Int):Int:=if ic L f=true/\ic L t=true then if f=t then 2 else fe (at' L t+at' L f) else 3
def E7 (L:List Int) (f t:Int):List Int:=if ic L f=true/\ic L t=true/\f≠t/\fe (at' L t+at' L f)=0 then (L.set t.toNat (at' L t+at' L f)).set f.toNat 0 else L
def Jt (L:List Int) (c:Int):Int:=if ic L c=true then at' L c else 0
def NO (L:List Int) (c:Int):Int:=if ic L c=true then 0 else 3
def A6 (x:Int):Prop:=-9223372036854775808<=x/\x<=9223372036854775807
structure Pt (L:List Int):Prop where
 n1:1<=L.length
 n2:L.length<=64
 rg:∀ x∈L,A6 x
def DJ (h:ic L c=true):0<=c/\c<(L.length:Int)/\c.toNat<L.length:=by
 have:=of_decide_eq_true h
 omega
def Pt.at (h:Pt L) (hc:ic L c=true):A6 (at' L c):=by
 have hl:=(DJ hc).2.2
 refine h.rg _ ?_
 unfold at'
 rw [ADY,ADZ hl]
 exact AEl hl
def xF (h:Pt L) (i:Nat) (x:Int) (hx:A6 x):Pt (L.set i x):=by
 refine ⟨by simpa using h.n1,by simpa using h.n2,λy hy=>?_⟩
 rcases AE9 hy with g | g
 ·exact h.rg y g
 ·exact g ▸ hx
def pD (h:fe n=0):A6 n:=by
 unfold fe at h
 unfold A6
 split at h
 ·assumption
 ·omega
def ED (h:A6 n):fe n=0/\fv n=n:=⟨AHi h,AHi h⟩
def Fi (h:¬ A6 n):fe n=16/\fv n=0:=⟨AHh h,AHh h⟩
def xG (m:Nat) (h1:1<=m) (h2:m<=64):Pt (List.replicate m 0):=
 ⟨by simpa using h1,by simpa using h2,λx hx=>by rw [AFb hx];unfold A6;omega⟩
def Fw:∀ (L:List Int) (i:Nat) (x:Int),i<L.length->(L.set i x).sum=L.sum+x-L.getD i 0
 | [],i,x,h=>by simp at h
 | a::t,0,x,_=>by simp [List.getD];omega
 | a::t,i+1,x,h=>by
  have ih:=Fw t i x (by simpa using h)
  simp only [AD2,AFD,ih]
  have e:(a::t).getD (i+1) 0=t.getD i 0:=by simp [List.getD]
  rw [e]
  omega
def Ga (L:List Int) (k:Nat) (h:k<L.length):(L.take (k+1)).sum=(L.take k).sum+L.getD k 0:=by
 have e:L.getD k 0=L[k]:=by simp [List.getD,h]
 rw [e,AE3 h,List.sum_append,AFD,List.sum_nil,Int.add_zero]
def Zb (h:Pt L) (k:Nat) (hk:k<=L.length):-(9223372036854775808*(k:Int))<=(L.take k).sum/\(L.take k).sum<=9223372036854775807*(k:Int):=by
 induction k with
 | zero=>simp
 | succ k ih=>
  have i1:=ih (by omega)
  rw [Ga L k (by omega)]
  have hm:A6 (L.getD k 0):=by
   refine h.rg _ ?_
   rw [ADY,ADZ (by omega:k<L.length)]
   exact AEl _
  unfold A6 at hm
  generalize (L.take k).sum=S at *
  generalize L.getD k 0=x at *
  have e:((k+1:Nat):Int)=(k:Int)+1:=by omega
  rw [e,Int.mul_add,Int.mul_add]
  omega
def lo (S:Int):Int:=S % 18446744073709551616
def hi (S:Int):Int:=(S / 18446744073709551616) % 18446744073709551616
def sg (n:Int):Int:=if n<0 then 18446744073709551615 else 0
def VE (S n:Int):(lo S+lo n+0) % 18446744073709551616=lo (S+n):=by unfold lo;omega
def VF (S n:Int) (hn:A6 n):(hi S+(sg n+(lo S+lo n+0) / 18446744073709551616) % 18446744073709551616) % 18446744073709551616=hi (S+n):=by
 unfold A6 at hn
 have a:n / 18446744073709551616=if n<0 then -1 else 0:=by split <;> omega
 unfold hi sg lo
 split at a
 ·rw [AHi (by assumption)]
  omega
 ·rw [AHh (by assumption)]
  omega
def fits (S:Int) (h1:-(9223372036854775808*64)<=S) (h2:S<=9223372036854775807*64) (x:Int) (hx:x=(lo S+9223372036854775808) % 18446744073709551616-9223372036854775808):
 (A6 S/\x=S/\(hi S !=sg x)=false)\/(¬ A6 S/\(hi S !=sg x)=true):=by
 subst hx
 by_cases c:A6 S
 ·refine Or.inl ⟨c,?_⟩
  unfold A6 at c
  have e:(lo S+9223372036854775808) % 18446744073709551616-9223372036854775808=S:=by unfold lo;omega
  rw [e]
  refine ⟨rfl,?_⟩
  have:hi S=sg S:=by
   unfold hi sg
   split <;> omega
  simp [this]
 ·refine Or.inr ⟨c,?_⟩
  unfold A6 at c
  have:hi S≠sg ((lo S+9223372036854775808) % 18446744073709551616-9223372036854775808):=by
   unfold hi sg lo
   split <;> omega
  simpa using this
end Go.Proofs.YtdlhlfpigcgapaaGreatDoor.Pm
namespace Go.Proofs.YtdlhlfpigcgapaaGreatDoor.Spl
open Go.Proofs.Tryz
open Go.ChangeShapes Go.WideShapes Go.ChangeAt Go.RowKit
def ES (n:Nat):madeCells #[Value.int .i64 0] n=((List.replicate n (0:Int)).map (Value.int .i64)).toArray:=by
 apply AFU
 ·simp [size_madeCells]
 ·intro i h1 h2
  simp [madeCells,AF5]
def Tryz.Qj:(prog.info? 2).map (λi=>(i.zero,i.size,i.bytes))=some (some (.int .i64 0),1,8):=by kernel_rfl
open Pm
variable {L:List Int} {w:World} {b g:Nat}
structure SL (w:World) (b g:Nat) (L:List Int):Prop where
 sb:AB w b [.slice (some ⟨g,0,none⟩) L.length L.length] 130
 sg:AB w g (L.map (Value.int .i64)) 2
 pt:Pt L
def SL.c0 (h:SL w b g L):w.cell? ⟨b,0,none⟩=some (.slice (some ⟨g,0,none⟩) L.length L.length):=h.sb.cell 0
def SL.ne {w:World} {b g:Nat} {L:List Int} (h:SL w b g L):b≠g:=h.sb.ne h.sg (by decide)
def SL.AA {B:Nat} {S:List Nat} {w w':World} {b g:Nat} {L:List Int} (h:SL w b g L) (k:Fr B S w w') (hb:b<B/\g<B) (hs:b∉S/\g∉S):SL w' b g L:=
 ⟨h.sb.AA k hb.1 hs.1,h.sg.AA k hb.2 hs.2,h.pt⟩
def SL.at (h:SL w b g L) (i:Nat) (hi:i<L.length):w.cell? ⟨g,i,none⟩=some (.int .i64 (L.getD i 0)):=by
 rw [h.sg.cell i,Ae L i hi]
def SL.len (h:SL w b g L):(L.length:Int)<=64:=by have:=h.pt.n2;omega
def Zc (h:SL w b g L) (i:Nat) (x:Int) (hx:A6 x):SL (w.setCell ⟨g,i,none⟩ (.int .i64 x)) b g (L.set i x):=by
 refine ⟨?_,?_,xF h.pt i x hx⟩
 ·have:=h.sb.other (p:=⟨g,i,none⟩) h.ne (.int .i64 x)
  simpa using this
 ·have:=h.sg.set i (.int .i64 x)
  rwa [<- AFT] at this
def Ka (m:Nat) (w:World) (h1:(1:Int)<=m) (h2:(m:Int)<=64):
 Calls prog 34 #[.int .i64 (m:Int)] w λe w'=>e=.returned (.tuple #[.pointer (some ⟨w.heap.size+1,0,none⟩),.int .i64 0])/\SL w' (w.heap.size+1) w.heap.size (List.replicate m 0)/\Fr w.heap.size [] w w':=by
 have hmk:=run_make_row' (P:=prog) 128 2 (.int .i64 0) 8 underlying128 Tryz.Qj rfl .i64 .i64 m (by omega) (by omega)
 have F:Hid (∀ o1 o2,Fr w.heap.size [] w ((w.alloc o1).alloc o2)):=λo1 o2=>((Fr.refl _ _ _).alloc (ADW _) o1).alloc (by simp) o2
 have G:Hid (Pt (List.replicate m 0)):=xG m (by omega) (by omega)
 go_enter func34,ntmps34
 go_wp2
 go_ret2
 refine ⟨rfl,⟨?_,?_,G.out⟩,F.out _ _⟩
 ·have:=AB.new (w.alloc (Obj.cells (madeCells #[Value.int IntKind.i64 0] m) 2)) [.slice (some ⟨w.heap.size,0,none⟩) m m] 130
  simpa using this
 ·rw [ES]
  exact (AB.new w _ 2).alloc _
def BR (c:Int) (w:World) (h:SL w b g L):
 Calls prog 187 #[.pointer (some ⟨b,0,none⟩),.int .i64 c] w λe w'=>e=.returned (.bool (ic L c))/\w'=w:=by
 have c0:=h.c0
 by_cases q:0<=c
 ·by_cases q2:c<(L.length:Int)
  ·rw [show ic L c=true from AHj ⟨q,q2⟩]
   clear h
   generalize L.length=l at *
   go_enter func187,ntmps187
   go_wp2
   go_ret
   exact ⟨rfl,rfl⟩
  ·rw [show ic L c=false from AHk (by omega)]
   clear h
   generalize L.length=l at *
   go_enter func187,ntmps187
   go_wp2
   go_ret
   exact ⟨rfl,rfl⟩
 ·rw [show ic L c=false from AHk (by omega)]
  clear h
  generalize L.length=l at *
  go_enter func187,ntmps187
  go_wp2
  go_ret
  exact ⟨rfl,rfl⟩
def IC {a b c d:Int} (h:a=b) (g:c=d):Ending.returned (.tuple #[.int .i64 a,.int .i64 c])=.returned (.tuple #[.int .i64 b,.int .i64 d]):=by rw [h,g]
def L' (a b:Int) (w:World) (ha:A6 a) (hb:A6 b):
 Calls prog 188 #[.int .i64 a,.int .i64 b] w λe w'=>e=.returned (.tuple #[.int .i64 (fv (a+b)),.int .i64 (fe (a+b))])/\w'=w:=by
 obtain ⟨ha1,ha2⟩:=ha
 obtain ⟨hb1,hb2⟩:=hb
 go_enter func188,ntmps188
 go_wp2
 all_goals
  go_ret2
  refine ⟨IC ?_ ?_,rfl⟩ <;> (simp only [fv,fe,wrap64] at *;split <;> omega)
def H3 (c n:Int) (w:World) (h:SL w b g L) (hn:A6 n):
 Calls prog 128 #[.pointer (some ⟨b,0,none⟩),.int .i64 c,.int .i64 n] w λe w'=>e=.returned (.int .i64 (BA L c n))/\SL w' b g (Dn L c n)/\Fr w.heap.size [g] w w':=by
 have c0:=h.c0
 have hl:=h.len
 have C:Hid (∀ _:Unit,_):=λ_=>BR c w h
 have HS:Hid (SL w b g L):=h
 cases i:ic L c with
 | true=>
  rw [i] at C
  have hi:=h.pt.at i
  have D:Hid (∀ _:Unit,_):=λ_=>L' (at' L c) n w hi hn
  obtain ⟨k,rfl⟩:=AD8 (DJ i).1
  have hk:(k:Int)<L.length:=(DJ i).2.1
  have ck:=h.at k (by omega)
  have fk:w.frozen? ⟨g,k,none⟩=false:=h.sg.free k
  have ea:at' L (k:Int)=L.getD k 0:=by unfold at';rw [AD4]
  by_cases z:fe (at' L (k:Int)+n)=0
  ·have zi:=pD z
   rw [(ED zi).1,(ED zi).2] at D
   rw [show BA L k n=0 by unfold BA;rw [AHi i,z],show Dn L k n=L.set k (at' L k+n) by unfold Dn;rw [AHi ⟨i,z⟩,AD4]]
   have ST:Hid (SL (w.setCell ⟨g,k,none⟩ (.int .i64 (at' L k+n))) b g (L.set k (at' L k+n))):=Zc h k _ zi
   rw [ea] at D ST ⊢
   clear h i zi z hi ea hn
   obtain ⟨s,hs⟩:∃ s,L.getD k 0+n=s:=⟨_,rfl⟩
   rw [hs] at D ST ⊢
   clear hs
   generalize L.getD k 0=x at *
   generalize L.length=l at *
   go_enter func128,ntmps128
   go_wp2_with fail
   refine (C.out ()).mono ?_
   rintro e w' ⟨rfl,rfl⟩
   go_wp2_with fail
   refine (D.out ()).mono ?_
   rintro e w' ⟨rfl,rfl⟩
   go_wp2
   go_ret
   exact ⟨rfl,ST.out,(Fr.refl _ _ _).setCell (Or.inr (by simp)) _⟩
  ·have zi:¬ A6 (at' L (k:Int)+n):=λq=>z (ED q).1
   rw [(Fi zi).1,(Fi zi).2] at D
   rw [show BA L k n=16 by unfold BA;rw [AHi i,(Fi zi).1],show Dn L k n=L by unfold Dn;rw [AHh (λq=>z q.2)]]
   rw [ea] at D
   clear h i zi z hi ea hn
   generalize L.getD k 0=x at *
   generalize L.length=l at *
   go_enter func128,ntmps128
   go_wp2_with fail
   refine (C.out ()).mono ?_
   rintro e w' ⟨rfl,rfl⟩
   go_wp2_with fail
   refine (D.out ()).mono ?_
   rintro e w' ⟨rfl,rfl⟩
   go_wp2
   go_ret
   exact ⟨rfl,HS.out,Fr.refl _ _ _⟩
 | false=>
  rw [i] at C
  rw [show BA L c n=3 from AHh (by rw [i];simp),show Dn L c n=L from AHh (by rw [i];simp)]
  clear h i
  generalize L.length=l at *
  go_enter func128,ntmps128
  go_wp2_with fail
  refine (C.out ()).mono ?_
  rintro e w' ⟨rfl,rfl⟩
  go_wp2
  go_ret
  exact ⟨rfl,HS.out,Fr.refl _ _ _⟩
def fN (f t:Int) (w:World) (h:SL w b g L):
 Calls prog 247 #[.pointer (some ⟨b,0,none⟩),.int .i64 f,.int .i64 t] w λe w'=>e=.returned (.int .i64 (JM L f t))/\SL w' b g (E7 L f t)/\Fr w.heap.size [g] w w':=by
 have c0:=h.c0
 have hl:=h.len
 have C:Hid (∀ _:Unit,_):=λ_=>BR f w h
 have D:Hid (∀ _:Unit,_):=λ_=>BR t w h
 have HS:Hid (SL w b g L):=h
 cases i:ic L f with
 | true=>
  rw [i] at C
  cases j:ic L t with
  | true=>
   rw [j] at D
   by_cases e:f=t
   ·rw [show JM L f t=2 by unfold JM;rw [AHi ⟨i,j⟩,AHi e],show E7 L f t=L by unfold E7;rw [AHh (λq=>q.2.2.1 e)]]
    subst e
    clear h i j
    generalize L.length=l at *
    go_enter func247,ntmps247
    go_wp2_with fail
    refine (C.out ()).mono ?_
    rintro e w' ⟨rfl,rfl⟩
    go_wp2_with fail
    refine (D.out ()).mono ?_
    rintro e w' ⟨rfl,rfl⟩
    go_wp2
    go_ret
    exact ⟨rfl,HS.out,Fr.refl _ _ _⟩
   ·have e2:(f==t)=false:=by simpa using e
    have hf:=h.pt.at i
    have A:Hid (∀ _:Unit,_):=λ_=>H3 t (at' L f) w h hf
    obtain ⟨k,rfl⟩:=AD8 (DJ i).1
    have hk:(k:Int)<L.length:=(DJ i).2.1
    have ck:=h.at k (by omega)
    have ea:at' L (k:Int)=L.getD k 0:=by unfold at';rw [AD4]
    rw [<- ea] at ck
    by_cases z:fe (at' L t+at' L k)=0
    ·rw [show BA L t (at' L k)=0 by unfold BA;rw [AHi j,z],show Dn L t (at' L k)=L.set t.toNat (at' L t+at' L k) by unfold Dn;rw [AHi ⟨j,z⟩]] at A
     rw [show JM L k t=0 by unfold JM;rw [AHi ⟨i,j⟩,AHh e,z],show E7 L k t=(L.set t.toNat (at' L t+at' L k)).set k 0 by unfold E7;rw [AHi ⟨i,j,e,z⟩,AD4]]
     obtain ⟨M,hM⟩:∃ M,L.set t.toNat (at' L t+at' L k)=M:=⟨_,rfl⟩
     have lM:M.length=L.length:=by rw [<- hM];simp
     rw [hM] at A ⊢
     have ST:Hid (∀ w1,SL w1 b g M->SL (w1.setCell ⟨g,k,none⟩ (.int .i64 0)) b g (M.set k 0)/\w1.cell? ⟨b,0,none⟩=some (.slice (some ⟨g,0,none⟩) L.length L.length)/\w1.cell? ⟨g,k,none⟩=some (.int .i64 (M.getD k 0))/\w1.frozen? ⟨g,k,none⟩=false):=λw1 s1=>⟨Zc s1 k 0 (by unfold A6;omega),by have:=s1.c0;rwa [lM] at this,s1.at k (by omega),s1.sg.free k⟩
     clear h i j z hf ea hM lM e
     generalize at' L k=x at *
     generalize L.length=l at *
     go_enter func247,ntmps247
     go_wp2_with fail
     refine (C.out ()).mono ?_
     rintro e w' ⟨rfl,rfl⟩
     go_wp2_with fail
     refine (D.out ()).mono ?_
     rintro e w' ⟨rfl,rfl⟩
     go_wp2_with fail
     refine (A.out ()).mono ?_
     rintro e w1 ⟨rfl,s1,f1⟩
     obtain ⟨s2,k1,k2,k3⟩:=ST.out w1 s1
     have S2:Hid (SL _ b g _):=s2
     have F1:Hid (Fr w'.heap.size [g] w' w1):=f1
     clear s1 f1 s2
     go_wp2
     go_ret
     exact ⟨rfl,S2.out,F1.out.setCell (Or.inr (by simp)) _⟩
    ·have zi:¬ A6 (at' L t+at' L k):=λq=>z (ED q).1
     rw [show BA L t (at' L k)=16 by unfold BA;rw [AHi j,(Fi zi).1],show Dn L t (at' L k)=L by unfold Dn;rw [AHh (λq=>z q.2)]] at A
     rw [show JM L k t=16 by unfold JM;rw [AHi ⟨i,j⟩,AHh e,(Fi zi).1],show E7 L k t=L by unfold E7;rw [AHh (λq=>z q.2.2.2)]]
     clear h i j z zi hf ea e
     generalize at' L k=x at *
     generalize L.length=l at *
     go_enter func247,ntmps247
     go_wp2_with fail
     refine (C.out ()).mono ?_
     rintro e w' ⟨rfl,rfl⟩
     go_wp2_with fail
     refine (D.out ()).mono ?_
     rintro e w' ⟨rfl,rfl⟩
     go_wp2_with fail
     refine (A.out ()).mono ?_
     rintro e w1 ⟨rfl,s1,f1⟩
     go_wp2
     go_ret
     exact ⟨rfl,s1,f1⟩
  | false=>
   rw [j] at D
   rw [show JM L f t=3 by unfold JM;rw [AHh (by rw [j];simp)],show E7 L f t=L by unfold E7;rw [AHh (by rw [j];simp)]]
   clear h i j
   generalize L.length=l at *
   go_enter func247,ntmps247
   go_wp2_with fail
   refine (C.out ()).mono ?_
   rintro e w' ⟨rfl,rfl⟩
   go_wp2_with fail
   refine (D.out ()).mono ?_
   rintro e w' ⟨rfl,rfl⟩
   go_wp2
   go_ret
   exact ⟨rfl,HS.out,Fr.refl _ _ _⟩
 | false=>
  rw [i] at C
  rw [show JM L f t=3 by unfold JM;rw [AHh (by rw [i];simp)],show E7 L f t=L by unfold E7;rw [AHh (by rw [i];simp)]]
  clear h i
  generalize L.length=l at *
  go_enter func247,ntmps247
  go_wp2_with fail
  refine (C.out ()).mono ?_
  rintro e w' ⟨rfl,rfl⟩
  go_wp2
  go_ret
  exact ⟨rfl,HS.out,Fr.refl _ _ _⟩
end Go.Proofs.YtdlhlfpigcgapaaGreatDoor.Spl

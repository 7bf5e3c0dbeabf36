import Derived.Test.YtdlhlfpigcgapaaGreatDoorAZal
import Derived.Test.YtdlhlfpigcgapaaGreatDoorAXb
set_option maxRecDepth 100000
set_option maxHeartbeats 16000000
set_option linter.unusedVariables false
set_option linter.unusedSimpArgs false
set_option linter.defProp false
namespace Go.Proofs.YtdlhlfpigcgapaaGreatDoor.Sl
open Go.Proofs.Tryz
open Mm
variable {O:Nat->Bool} {W:List Nat} {m:Nat}
def st (O:Nat->Bool) (n:Nat) (v:Bool):Nat->Bool:=λj=>if j=n then v else O j
def li (m:Nat) (O:Nat->Bool):List Int:=((List.range m).filter λi=>O (i+1)).map λi:Nat=>((i+1:Nat):Int)
def ff (m:Nat) (O:Nat->Bool):Option Nat:=(List.range m).find? λi=>!O (i+1)
def tN:Option Nat->Int | some i=>((i+1:Nat):Int) | none=>0
def tE:Option Nat->Int | some _=>0 | none=>5
def tO (O:Nat->Bool):Option Nat->(Nat->Bool) | some i=>st O (i+1) true | none=>O
def hs (m:Nat) (O:Nat->Bool) (n:Int):Bool:=decide (1<=n/\n<=m)&&O n.toNat
def gE (m:Nat) (O:Nat->Bool) (n:Int):Int:=if hs m O n=true then 0 else 4
def gO (m:Nat) (O:Nat->Bool) (n:Int):Nat->Bool:=if hs m O n=true then st O n.toNat false else O
def UU (m:Nat) (O:Nat->Bool) (i:Nat) (hi:i<m) (h:O (i+1)=false) (g:∀ j,j<i->O (j+1)=true):ff m O=some i:=by
 unfold ff
 rw [AFK]
 refine ⟨by simp [h],ADk.2 hi,λj hj=>?_⟩
 simp [g j hj]
def OO (m:Nat) (O:Nat->Bool) (g:∀ j,j<m->O (j+1)=true):ff m O=none:=by
 unfold ff
 rw [ADw]
 intro x hx
 simp [g x (ADk.1 hx)]
structure Wd (m:Nat) (W:List Nat) (O:Nat->Bool):Prop where
 len:W.length=(m+63) / 64
 m1:1<=m
 m2:m<=1024
 lt:∀ j,j<W.length->W.getD j 0<18446744073709551616
 bit:∀ j i,j<W.length->i<64->(W.getD j 0).testBit i=(decide (64*j+i<m)&&O (64*j+i+1))
def Gk (r:List Nat) (p q:Nat) (n:Nat) (hp:p<r.length):(r.set p n).getD q 0=if q=p then n else r.getD q 0:=by
 simp only [List.getD,AD6]
 by_cases h:p=q
 ·subst h;simp [hp]
 ·have:¬ q=p:=λe=>h e.symm
  simp [h,this]
def X0 (m:Nat) (h1:1<=m) (h2:m<=1024):Wd m (List.replicate ((m+63) / 64) 0) λ_=>false:=by
 have e:∀ j,(List.replicate ((m+63) / 64) 0).getD j 0=0:=by
  intro j
  simp only [List.getD,AEA]
  split <;> rfl
 refine ⟨by simp,h1,h2,λj _=>by rw [e];omega,λj i _ _=>by rw [e];simp⟩
def uI (h:Wd m W O) (j i:Nat) (hj:j<W.length) (hi:i<64) (hm:64*j+i<m):
 Wd m (W.set j (W.getD j 0 ||| 2 ^ i)) (st O (64*j+i+1) true):=by
 refine ⟨by simp [h.len],h.m1,h.m2,λt ht=>?_,λt s ht hs=>?_⟩
 ·rw [Gk _ _ _ _ hj]
  split
  ·exact Vx (h.lt j hj) (AEz (AEd (by omega) hi) rfl)
  ·exact h.lt t (by simpa using ht)
 ·rw [Gk _ _ _ _ hj]
  have hb:=h.bit t s (by simpa using ht) hs
  by_cases c:t=j
  ·subst c
   rw [AHi rfl,AGA,hb,AFN]
   unfold st
   by_cases d:i=s
   ·subst d
    simp [hm]
   ·have d2:¬ s=i:=λe=>d e.symm
    simp [d,d2]
  ·rw [AHh c,hb]
   unfold st
   rw [AHh (by omega)]
def uJ (h:Wd m W O) (j i:Nat) (hj:j<W.length) (hi:i<64):
 Wd m (W.set j (nt (W.getD j 0) (2 ^ i))) (st O (64*j+i+1) false):=by
 have hp:2 ^ i<18446744073709551616:=AEz (AEd (by omega) hi) rfl
 refine ⟨by simp [h.len],h.m1,h.m2,λt ht=>?_,λt s ht hs=>?_⟩
 ·rw [Gk _ _ _ _ hj]
  split
  ·exact DZ _ _
  ·exact h.lt t (by simpa using ht)
 ·rw [Gk _ _ _ _ hj]
  have hb:=h.bit t s (by simpa using ht) hs
  by_cases c:t=j
  ·subst c
   rw [AHi rfl,nt,ADp,hb,Dh _ _ hp,AFN]
   unfold st
   by_cases d:i=s
   ·subst d
    simp
   ·have d2:¬ s=i:=λe=>d e.symm
    simp [d,d2,hs]
  ·rw [AHh c,hb]
   unfold st
   rw [AHh (by omega)]
def X4 (h:Wd m W O) (n:Nat) (h1:1<=n) (h2:n<=m):
 (n-1) / 64<W.length/\((W.getD ((n-1) / 64) 0&&& 2 ^ ((n-1) % 64)=0)=(O n=false)):=by
 have hj:(n-1) / 64<W.length:=by rw [h.len];omega
 refine ⟨hj,?_⟩
 have hb:=h.bit ((n-1) / 64) ((n-1) % 64) hj (by omega)
 have e:64*((n-1) / 64)+(n-1) % 64=n-1:=by omega
 rw [e,show n-1+1=n by omega] at hb
 have hd:decide (n-1<m)=true:=AHj (by omega)
 rw [hd,AEC] at hb
 have hc:0<=(((n-1) % 64:Nat):Int)/\(((n-1) % 64:Nat):Int)<64:=by omega
 have k:=Xw (W.getD ((n-1) / 64) 0) (((n-1) % 64:Nat):Int)
 rw [Hl _ hc,Dx _ _ (by omega),hb,AD4] at k
 exact k
def lk (W:List Nat) (k:Nat):List Int:=(List.range k).flatMap λj=>(ls (W.getD j 0)).map λi:Nat=>((64*j+i+1:Nat):Int)
def KY (W:List Nat) (k:Nat):lk W (k+1)=lk W k++(ls (W.getD k 0)).map λi:Nat=>((64*k+i+1:Nat):Int):=by
 unfold lk
 rw [AEK,AES]
 simp
def kB {m:Nat} {W:List Nat} {O:Nat->Bool} (h:Wd m W O):∀ k,k<=W.length->lk W k=((List.range (64*k)).filter λt=>decide (t<m)&&O (t+1)).map λt:Nat=>((t+1:Nat):Int)
 | 0,_=>by simp [lk]
 | k+1,hk=>by
  rw [KY,kB h k (by omega),show 64*(k+1)=64*k+64 by omega,List.range_add,AEQ,AEg,AFk,List.map_map]
  congr 1
  have e:ls (W.getD k 0)=(List.range 64).filter ((λt=>decide (t<m)&&O (t+1))∘λx=>64*k+x):=by
   unfold ls
   apply AEN
   intro i hi
   exact h.bit k i (by omega) (ADk.1 hi)
  rw [e]
  rfl
def X5 (h:Wd m W O):lk W W.length=li m O:=by
 rw [kB h W.length (ADW _)]
 have hl:=h.len
 obtain ⟨d,hd⟩:∃ d,64*W.length=m+d:=⟨64*W.length-m,by omega⟩
 rw [hd,List.range_add,AEQ,AEg]
 have e1:(List.range m).filter (λt=>decide (t<m)&&O (t+1))=(List.range m).filter λi=>O (i+1):=by
  apply AEN
  intro i hi
  simp [ADk.1 hi]
 have e2:((List.range d).map λx=>m+x).filter (λt=>decide (t<m)&&O (t+1))=[]:=by
  rw [AEI]
  intro t ht
  obtain ⟨x,_,rfl⟩:=AE6.1 ht
  rw [AHk (show ¬ m+x<m by omega)]
  simp
 rw [e1,e2]
 simp [li]
def ABU (m:Nat) (O:Nat->Bool):(li m O).length<=m:=by
 unfold li
 rw [ADz]
 have:=ADq (λi=>O (i+1)) (List.range m)
 simpa using this
def ABV (W:List Nat) (k:Nat):(lk W k).length<=64*k:=by
 induction k with
 | zero=>simp [lk]
 | succ k ih=>
  rw [KY,ADa,ADz]
  have:=KU (W.getD k 0)
  omega
def Q3 (x k q:Nat) (e:x=2 ^ k*(2*q+1)) (i:Nat):(x&&& (x-1)).testBit i=(x.testBit i&&decide (i≠k)):=by
 have hp:=AEJ k
 have e1:x-1=2 ^ k*(2*q)+(2 ^ k-1):=by
  rw [e,Nat.mul_add,AEx]
  omega
 have b1:x.testBit i=(decide (k<=i)&&(2*q+1).testBit (i-k)):=by rw [e,AEZ,AE2]
 rw [ADp,b1,e1,AFB _ (by omega)]
 by_cases c:i<k
 ·have:¬ k<=i:=by omega
  simp [this]
 ·rw [AHh c]
  by_cases d:i=k
  ·subst d
   simp
  ·obtain ⟨t,ht⟩:∃ t,i-k=t+1:=⟨i-k-1,by omega⟩
   rw [ht]
   have a1:(2*q+1).testBit (t+1)=q.testBit t:=by rw [AFt];congr 1;omega
   have a2:(2*q).testBit (t+1)=q.testBit t:=by rw [AFt];congr 1;omega
   rw [a1,a2]
   cases q.testBit t <;> simp [d]
def mJ (x k q:Nat) (hk:k<64) (e:x=2 ^ k*(2*q+1)):ls x=k::ls (x&&& (x-1)):=by
 have h1:hd (ls x)=k:=jX x k q hk e
 have hm:k∈ls x:=by
  rw [Qv]
  refine ⟨hk,?_⟩
  rw [e,AEZ,AE2]
  simp
 have h2:ls (x&&& (x-1))=(ls x).filter λi=>decide (i≠k):=by
  unfold ls
  rw [AEa]
  apply AEN
  intro i _
  rw [Q3 x k q e i,AF2]
 have hn:(ls x).Nodup:=AFX _ List.nodup_range
 rw [h2]
 cases hc:ls x with
 | nil=>rw [hc] at hm;simp at hm
 | cons a r=>
  rw [hc] at h1 hn
  have:a=k:=by simpa [hd] using h1
  subst this
  rw [AF7] at hn
  congr 1
  rw [AE4,AHh (by simp)]
  symm
  rw [AEL]
  intro b hb
  have:b≠a:=λe2=>hn.1 (e2 ▸ hb)
  simp [this]
end Go.Proofs.YtdlhlfpigcgapaaGreatDoor.Sl
namespace Go.Proofs.YtdlhlfpigcgapaaGreatDoor.Slt
open Go.Proofs.Tryz
open Go.ChangeShapes Go.WideShapes Go.ChangeAt Go.RowKit
open Mm Sl
variable {W:List Nat} {O:Nat->Bool} {w:World} {b f g i k m q x y:Nat}
def Tryz.kC:(prog.info? 28).map (λi=>(i.zero,i.size,i.bytes))=some (some (.int .u64 0),1,8):=by kernel_rfl
def wv (x:Nat):Value:=.int .u64 (x:Int)
def PA (n:Nat):madeCells #[Value.int .u64 0] n=((List.replicate n 0).map wv).toArray:=by
 apply AFU
 ·simp [size_madeCells]
 ·intro i h1 h2
  simp [madeCells,AF5,wv]
def Te (xs:List Nat) (i:Nat) (h:i<xs.length):(xs.map wv)[i]?=some (.int .u64 ((xs.getD i 0:Nat):Int)):=by
 rw [ADn,ADZ h,ADY,ADZ h]
 rfl
structure T (w:World) (b g m:Nat) (W:List Nat) (O:Nat->Bool):Prop where
 sb:AB w b [.slice (some ⟨g,0,none⟩) W.length W.length,.int .i64 (m:Int)] 224
 sg:AB w g (W.map wv) 28
 wd:Wd m W O
def T.c0 (h:T w b g m W O):w.cell? ⟨b,0,none⟩=some (.slice (some ⟨g,0,none⟩) W.length W.length):=h.sb.cell 0
def T.c1 (h:T w b g m W O):w.cell? ⟨b,1,none⟩=some (.int .i64 (m:Int)):=h.sb.cell 1
def T.ne {w:World} {b g m:Nat} {W:List Nat} {O:Nat->Bool} (h:T w b g m W O):b≠g:=h.sb.ne h.sg (by decide)
def T.AA {B:Nat} {S:List Nat} {w w':World} {b g m:Nat} {W:List Nat} {O:Nat->Bool} (h:T w b g m W O) (k:Fr B S w w') (hb:b<B/\g<B) (hs:b∉S/\g∉S):T w' b g m W O:=
 ⟨h.sb.AA k hb.1 hs.1,h.sg.AA k hb.2 hs.2,h.wd⟩
def T.word (h:T w b g m W O) {j:Nat} (hj:j<W.length):w.cell? ⟨g,j,none⟩=some (.int .u64 ((W.getD j 0:Nat):Int)):=by
 rw [h.sg.cell,Te W j hj]
def T.len {w:World} {b g m:Nat} {W:List Nat} {O:Nat->Bool} (h:T w b g m W O):(W.length:Int)<=16:=by have:=h.wd.len;have:=h.wd.m2;omega
def UV {O':Nat->Bool} (h:T w b g m W O) (j x:Nat) (k:Wd m (W.set j x) O'):
 T (w.setCell ⟨g,j,none⟩ (.int .u64 (x:Int))) b g m (W.set j x) O':=by
 refine ⟨?_,?_,k⟩
 ·have:=h.sb.other (p:=⟨g,j,none⟩) h.ne (.int .u64 (x:Int))
  simpa using this
 ·have:=h.sg.set j (.int .u64 (x:Int))
  rw [show Value.int .u64 (x:Int)=wv x from rfl] at this ⊢
  rwa [<- AFT] at this
def Q5 (m:Nat) (w:World) (h1:(1:Int)<=m) (h2:(m:Int)<=1024):
 Calls prog 64 #[.int .i64 (m:Int)] w λe w'=>e=.returned (.tuple #[.pointer (some ⟨w.heap.size+1,0,none⟩),.int .i64 0])/\(∃ W,T w' (w.heap.size+1) w.heap.size m W λ_=>false)/\Fr w.heap.size [] w w'/\w'.heap.size=w.heap.size+2:=by
 obtain ⟨n,hn⟩:∃ n,(m+63) / 64=n:=⟨_,rfl⟩
 have G:=X0 m (by omega) (by omega)
 rw [hn] at G
 have hq:((m:Int)+64-1).tdiv 64=(n:Int):=by rw [Int.tdiv_eq_ediv_of_nonneg (by omega)];omega
 have hmk:=run_make_row' (P:=prog) 222 28 (.int .u64 0) 8 underlying222 Tryz.kC rfl .i64 .i64 n (by omega) (by omega)
 have F:Hid (∀ o1 o2,Fr w.heap.size [] w ((w.alloc o1).alloc o2)):=λo1 o2=>((Fr.refl _ _ _).alloc (ADW _) o1).alloc (by simp) o2
 have HG:Hid (Wd m (List.replicate n 0) λ_=>false):=G
 clear G
 go_enter func64,ntmps64
 go_wp2
 go_ret2
 refine ⟨rfl,⟨List.replicate n 0,?_,?_,HG.out⟩,F.out _ _,by simp⟩
 ·have:=AB.new (w.alloc (Obj.cells (madeCells #[Value.int IntKind.u64 0] n) 28)) [.slice (some ⟨w.heap.size,0,none⟩) n n,.int .i64 (m:Int)] 224
  simpa using this
 ·rw [PA]
  exact (AB.new w _ 28).alloc _
def Ka (m:Nat) (w:World) (h1:(1:Int)<=m) (h2:(m:Int)<=1024):
 Calls prog 64 #[.int .i64 (m:Int)] w λe w'=>e=.returned (.tuple #[.pointer (some ⟨w.heap.size+1,0,none⟩),.int .i64 0])/\(∃ W,T w' (w.heap.size+1) w.heap.size m W λ_=>false)/\Fr w.heap.size [] w w':=
 (Q5 m w h1 h2).mono λ_ _ ⟨a,b,c,_⟩=>⟨a,b,c⟩
def MN (j i:Nat) (w:World) (hj:(j:Int)<=16) (hi:(i:Int)<=64):
 Calls prog 257 #[.int .i64 (j:Int),.int .i64 (i:Int)] w λe w'=>e=.returned (.int .i64 ((64*j+i+1:Nat):Int))/\w'=w:=by
 rw [show ((64*j+i+1:Nat):Int)=(j:Int)*64+i+1 by omega]
 go_enter func257,ntmps257
 go_wp2
 go_ret
 exact ⟨rfl,rfl⟩
def X7 {a b c d:Int} (h:a=b) (g:c=d):Ending.returned (.tuple #[.int .i64 a,.int .u64 c])=.returned (.tuple #[.int .i64 b,.int .u64 d]):=by rw [h,g]
def Q6 (k:Nat) (h:k<64):IntKind.u64.wrap ((2:Int) ^ k)=((2 ^ k:Nat):Int):=by
 have hp:2 ^ k<18446744073709551616:=AEz (AEd (by omega) h) rfl
 have e:((2:Int) ^ k)=((2 ^ k:Nat):Int):=by simp
 rw [e]
 exact Ff _ hp
def Q7 (k:Nat) (h:k<64):2 ^ k<18446744073709551616:=AEz (AEd (by omega) h) rfl
def Ew (n:Nat) (w:World) (h1:(1:Int)<=n) (h2:(n:Int)<=1024):
 Calls prog 251 #[.int .i64 (n:Int)] w λe w'=>e=.returned (.tuple #[.int .i64 (((n-1) / 64:Nat):Int),.int .u64 ((2 ^ ((n-1) % 64):Nat):Int)])/\w'=w:=by
 have P:Hid (IntKind.u64.wrap ((2:Int) ^ ((n-1) % 64))=((2 ^ ((n-1) % 64):Nat):Int)):=Q6 _ (by omega)
 have D:Hid (((n:Int)-1) / 64=(((n-1) / 64:Nat):Int)):=by unfold Hid;omega
 go_enter func251,ntmps251
 go_wp2
 go_ret2
 exact ⟨X7 D.out P.out,rfl⟩
def Hn (n:Int) (w:World) (h:T w b g m W O):
 Calls prog 250 #[.pointer (some ⟨b,0,none⟩),.int .i64 n] w λe w'=>e=.returned (.bool (hs m O n))/\w'=w:=by
 have c0:=h.c0
 have c1:=h.c1
 have hm:(m:Int)<=1024:=by have:=h.wd.m2;omega
 by_cases l:n<1
 ·rw [show hs m O n=false by unfold hs;rw [AHk (by omega)];rfl]
  clear h c0
  go_enter func250,ntmps250
  go_wp2
  go_ret
  exact ⟨rfl,rfl⟩
 ·by_cases u:(m:Int)<n
  ·rw [show hs m O n=false by unfold hs;rw [AHk (by omega)];rfl]
   clear h c0
   go_enter func250,ntmps250
   go_wp2
   go_ret
   exact ⟨rfl,rfl⟩
  ·obtain ⟨k,rfl⟩:=AD8 (show 0<=n by omega)
   rw [show hs m O (k:Int)=O k by unfold hs;rw [AHj (by omega)];simp]
   have C:Hid (∀ _:Unit,_):=λ_=>Ew k w (by omega) (by omega)
   obtain ⟨hj,hb⟩:=X4 h.wd k (by omega) (by omega)
   have cg:=h.word hj
   have hlt:=h.wd.lt _ hj
   have hj2:(((k-1) / 64:Nat):Int)<W.length:=by omega
   have ha:=bits_and_u64_nat (W.getD ((k-1) / 64) 0) (2 ^ ((k-1) % 64)) hlt (Q7 _ (by omega))
   have hv:Hid (((((W.getD ((k-1) / 64) 0&&& 2 ^ ((k-1) % 64):Nat):Int)) !=0)=O k):=by
    unfold Hid
    cases ho:O k with
    | false=>
     rw [ho] at hb
     simp only [eq_iff_iff,iff_true] at hb
     rw [hb]
     rfl
    | true=>
     rw [ho] at hb
     simp only [AE1,eq_iff_iff,iff_false] at hb
     simp
     exact hb
   clear h hj hb hlt
   generalize 2 ^ ((k-1) % 64)=p at *
   generalize (k-1) / 64=j at *
   generalize W.getD j 0&&& p=z at *
   generalize W.getD j 0=x at *
   generalize W.length=nw at *
   go_enter func250,ntmps250
   go_wp2_with fail
   refine (C.out ()).mono ?_
   rintro e w' ⟨rfl,rfl⟩
   go_wp2
   go_ret
   exact ⟨dA hv.out,rfl⟩
def Ll (n:Int) (w:World) (h:T w b g m W O):
 Calls prog 190 #[.pointer (some ⟨b,0,none⟩),.int .i64 n] w λe w'=>e=.returned (.int .i64 (gE m O n))/\(∃ W',T w' b g m W' (gO m O n))/\Fr w.heap.size [b,g] w w':=by
 have C:Hid (∀ _:Unit,_):=λ_=>Hn n w h
 cases e:hs m O n with
 | false=>
  rw [e] at C
  rw [show gE m O n=4 by unfold gE;rw [e];rfl,show gO m O n=O by unfold gO;rw [e];rfl]
  have HT:Hid (T w b g m W O):=h
  clear h e
  go_enter func190,ntmps190
  go_wp2_with fail
  refine (C.out ()).mono ?_
  rintro e w' ⟨rfl,rfl⟩
  go_wp2
  go_ret
  exact ⟨rfl,⟨_,HT.out⟩,Fr.refl _ _ _⟩
 | true=>
  rw [e] at C
  rw [show gE m O n=0 by unfold gE;rw [e];rfl,show gO m O n=st O n.toNat false by unfold gO;rw [e];rfl]
  have hn:1<=n/\n<=m:=by
   unfold hs at e
   rw [ADe] at e
   exact of_decide_eq_true e.1
  have hm:(m:Int)<=1024:=by have:=h.wd.m2;omega
  obtain ⟨k,rfl⟩:=AD8 (show 0<=n by omega)
  have D:Hid (∀ _:Unit,_):=λ_=>Ew k w (by omega) (by omega)
  have hj:=(X4 h.wd k (by omega) (by omega)).1
  have c0:=h.c0
  have cg:=h.word hj
  have fg:w.frozen? ⟨g,(k-1) / 64,none⟩=false:=h.sg.free _
  have hlt:=h.wd.lt _ hj
  have hj2:(((k-1) / 64:Nat):Int)<W.length:=by omega
  have ha:bits .andNot .u64 ((W.getD ((k-1) / 64) 0:Nat):Int) ((2 ^ ((k-1) % 64):Nat):Int)=((nt (W.getD ((k-1) / 64) 0) (2 ^ ((k-1) % 64)):Nat):Int):=u64_andNot_nat _ _ hlt (Q7 _ (by omega))
  have wc:=uJ h.wd ((k-1) / 64) ((k-1) % 64) hj (by omega)
  rw [show 64*((k-1) / 64)+(k-1) % 64+1=k by omega] at wc
  have TS:Hid _:=UV h ((k-1) / 64) _ wc
  rw [show ((k:Int)).toNat=k by omega]
  clear h hj e hn hm hlt wc
  generalize 2 ^ ((k-1) % 64)=p at *
  generalize (k-1) / 64=j at *
  generalize nt (W.getD j 0) p=z at *
  generalize W.getD j 0=x at *
  generalize W.length=nw at *
  go_enter func190,ntmps190
  go_wp2_with fail
  refine (C.out ()).mono ?_
  rintro e w' ⟨rfl,rfl⟩
  go_wp2_with fail
  refine (D.out ()).mono ?_
  rintro e w' ⟨rfl,rfl⟩
  go_wp2
  go_ret
  exact ⟨rfl,⟨_,TS.out⟩,(Fr.refl _ _ _).setCell (Or.inr (by simp)) _⟩
def DA (w:World) (h:T w b g m W O):
 Calls prog 342 #[.pointer (some ⟨b,0,none⟩)] w λe w'=>e=.returned (.int .i64 ((li m O).length:Int))/\w'=w:=by
 have c0:=h.c0
 have hl:=h.len
 have HW:Hid (∀ j:Nat,(j:Int)<W.length->w.cell? ⟨g,j,none⟩=some (.int .u64 ((W.getD j 0:Nat):Int))/\W.getD j 0<18446744073709551616):=λj hj=>⟨h.word (by omega),h.wd.lt j (by omega)⟩
 have HE:Hid ((li m O).length=(lk W W.length).length):=by rw [X5 h.wd];exact rfl
 rw [HE.out]
 clear h
 obtain ⟨nw,hn⟩:∃ nw,W.length=nw:=⟨_,rfl⟩
 rw [hn] at c0 hl HW ⊢
 obtain ⟨R,hR⟩:∃ R,(lk W nw).length=R:=⟨_,rfl⟩
 have HR:Hid ((lk W nw).length=R):=hR
 rw [hR]
 clear hn hR HE
 go_enter func342,ntmps342
 go_wp2
 go_loop [12,3] (λi c=>∃ k C:Nat,(k:Int)<=nw/\Hid ((lk W k).length=C)/\(C:Int)<=64*k/\i=.int .i64 k/\c=.int .i64 C) (λi _=>nw-(intOf i).toNat)
 case atStart=>exact ⟨0,0,by omega,rfl,by omega,rfl,rfl⟩
 case round=>
  obtain ⟨k,C,hk,hC,hcl,rfl,rfl⟩:=hrel
  by_cases e:(k:Int)<nw
  ·obtain ⟨cg,lt⟩:=HW.out k e
   have D:Hid (∀ w,_):=λw=>Qx (W.getD k 0) w lt
   have s:Hid ((lk W (k+1)).length=C+(ls (W.getD k 0)).length):=by rw [KY,ADa,ADz,hC.out];exact rfl
   have hle:((ls (W.getD k 0)).length:Int)<=64:=by have:=KU (W.getD k 0);omega
   generalize (ls (W.getD k 0)).length=q at *
   generalize W.getD k 0=x at *
   clear lt
   go_wp2_with fail
   refine (D.out _).mono ?_
   rintro e w' ⟨rfl,rfl⟩
   go_wp2
   go_round
   case rel=>exact ⟨k+1,C+q,by omega,s,by omega,by go_num,by go_num⟩
   case measure=>simp [intOf];omega
  ·have e2:C=R:=by rw [<- hC.out,<- HR.out,show k=nw by omega]
   subst e2
   go_wp2
   go_ret
   exact ⟨rfl,rfl⟩
def UW (hx:x<18446744073709551616) (hi:i<64):(18446744073709551615-x).testBit i=!x.testBit i:=by
 rw [Dh x i hx,AHj hi,AEC]
def Q8 (x:Nat) (hx:x<18446744073709551616):bits .xor .u64 IntKind.u64.max (x:Int)=((18446744073709551615-x:Nat):Int):=by
 have e:(18446744073709551615:Nat) ^^^ x=18446744073709551615-x:=by
  apply AEO
  intro i
  rw [Nat.testBit_xor,Dh x i hx,max_eq,AFA]
  by_cases hi:i<64
  ·simp [hi]
  ·rw [F7 hx (by omega)]
   simp [hi]
 have h:=u64_xor_nat 18446744073709551615 x (by omega) hx
 rw [e] at h
 exact h
def dB (e:y=2 ^ f*(2*q+1)) (hi:i<f):y.testBit i=false:=by
 rw [e,AEZ,AE2]
 have:¬ f<=i:=by omega
 simp [this]
def mK (e:y=2 ^ f*(2*q+1)):y.testBit f=true:=by
 rw [e,AEZ,AE2]
 simp
def X8 (h:Wd m W O) (hk:k<W.length) (e:W.getD k 0=18446744073709551615) (g:∀ t,t<64*k->t<m->O (t+1)=true):∀ t,t<64*(k+1)->t<m->O (t+1)=true:=by
 intro t ht hm
 by_cases c:t<64*k
 ·exact g t c hm
 ·have hb:=h.bit k (t-64*k) hk (by omega)
  rw [e,show 64*k+(t-64*k)=t by omega] at hb
  have:(18446744073709551615:Nat).testBit (t-64*k)=true:=by
   rw [max_eq,AFA]
   exact AHj (by omega)
  rw [this] at hb
  have:=hb.symm
  rw [ADe] at this
  exact this.2
def X9 (h:Wd m W O) (hk:k<W.length) (hf:f<64) (e:18446744073709551615-W.getD k 0=2 ^ f*(2*q+1)) (g:∀ t,t<64*k->t<m->O (t+1)=true):
 (∀ t,t<64*k+f->O (t+1)=true\/m<=t)/\(64*k+f<m->O (64*k+f+1)=false):=by
 have hx:=h.lt k hk
 refine ⟨λt ht=>?_,λhm=>?_⟩
 ·by_cases c:t<64*k
  ·by_cases d:t<m
   ·exact Or.inl (g t c d)
   ·exact Or.inr (by omega)
  ·have hb:=h.bit k (t-64*k) hk (by omega)
   have hl:=dB e (show t-64*k<f by omega)
   rw [UW hx (by omega),hb,show 64*k+(t-64*k)=t by omega] at hl
   simp at hl
   exact Or.inl hl.2
 ·have hb:=h.bit k f hk hf
  have hl:=mK e
  rw [UW hx hf,hb,AHj hm] at hl
  simpa using hl
def Ij (w:World) (h:T w b g m W O) (ht:A9 w):
 Calls prog 199 #[.pointer (some ⟨b,0,none⟩)] w λe w'=>e=.returned (.tuple #[.int .i64 (tN (ff m O)),.int .i64 (tE (ff m O))])/\(∃ W',T w' b g m W' (tO O (ff m O)))/\Fr w.heap.size [b,g] w w':=by
 have c0:=h.c0
 have c1:=h.c1
 have hl:=h.len
 have HT:Hid (T w b g m W O):=h
 have HB:Hid (A9 w):=ht
 have hm:(m:Int)<=1024:=by have:=h.wd.m2;omega
 obtain ⟨nw,hn⟩:∃ nw,W.length=nw:=⟨_,rfl⟩
 have HN:Hid (W.length=nw):=hn
 obtain ⟨V,hV⟩:∃ V,tN (ff m O)=V:=⟨_,rfl⟩
 obtain ⟨E,hE⟩:∃ E,tE (ff m O)=E:=⟨_,rfl⟩
 obtain ⟨U,hU⟩:∃ U,tO O (ff m O)=U:=⟨_,rfl⟩
 have HF:Hid (∀ F,ff m O=F->V=tN F/\E=tE F/\U=tO O F):=λF e=>by rw [<- hV,<- hE,<- hU,e];exact ⟨rfl,rfl,rfl⟩
 rw [hn] at c0 hl
 rw [hV,hE,hU]
 clear h ht hn hV hE hU
 go_enter func199,ntmps199
 go_wp2
 go_loop [14] (λi=>∃ k:Nat,(k:Int)<=nw/\Hid (∀ t,t<64*k->t<m->O (t+1)=true)/\i=.int .i64 k) (λi=>nw-(intOf i).toNat)
 case atStart=>exact ⟨0,by omega,λt ht=>by omega,rfl⟩
 case round=>
  obtain ⟨k,hk,hG,rfl⟩:=hrel
  by_cases e:(k:Int)<nw
  ·have hk2:k<W.length:=by have:=HN.out;omega
   have cg:=HT.out.word hk2
   have lt:=HT.out.wd.lt k hk2
   by_cases c:W.getD k 0=18446744073709551615
   ·have s:Hid (∀ t,t<64*(k+1)->t<m->O (t+1)=true):=X8 HT.out.wd hk2 c hG.out
    rw [c] at cg
    have hx:bits .xor .u64 IntKind.u64.max (18446744073709551615:Int)=0:=Q8 18446744073709551615 (by omega)
    have cg2:w.cell? ⟨g,k,none⟩=some (.int .u64 18446744073709551615):=cg
    clear lt c hk2 cg
    go_wp2_with fail
    refine (mH _).mono ?_
    rintro e w' ⟨rfl,rfl⟩
    go_wp2
    go_round
    case rel=>exact ⟨k+1,by omega,s,by go_num⟩
    case measure=>simp [intOf];omega
   ·have hx:=Q8 (W.getD k 0) lt
    have Z:Hid (∀ _:Unit,_):=λ_=>Qy (18446744073709551615-W.getD k 0) w (by omega) (by omega) HB.out
    obtain ⟨q,eq,hf⟩:=F9 64 (18446744073709551615-W.getD k 0) (by omega) (by omega)
    generalize Lib.ntzAux 64 (18446744073709551615-W.getD k 0)=f at *
    obtain ⟨p1,p2⟩:=X9 HT.out.wd hk2 hf eq hG.out
    have NM:Hid (∀ w,_):=λw=>MN k f w (by omega) (by omega)
    have hf2:(f:Int)<64:=by omega
    have fn:((f:Int)==64)=false:=by simp;omega
    by_cases d:64*k+f<m
    ·obtain ⟨n,hn⟩:∃ n,64*k+f+1=n:=⟨_,rfl⟩
     have hs:=HF.out _ (UU m O _ d (p2 d) λt ht=>(p1 t ht).resolve_right (by omega))
     have e1:V=((64*k+f+1:Nat):Int):=hs.1
     have e2:E=0:=hs.2.1
     have e3:U=st O (64*k+f+1) true:=hs.2.2
     have TS:Hid _:=UV HT.out k _ (uI HT.out.wd k f hk2 hf d)
     have ho:bits .or .u64 ((W.getD k 0:Nat):Int) ((2:Int) ^ f)=((W.getD k 0 ||| 2 ^ f:Nat):Int):=by
      rw [show ((2:Int) ^ f)=((2 ^ f:Nat):Int) by simp]
      exact bits_or_u64_nat (W.getD k 0) (2 ^ f) lt (Q7 f hf)
     have hp:IntKind.u64.wrap ((2:Int) ^ f)=(2:Int) ^ f:=by rw [Q6 f hf];simp
     have fg:w.frozen? ⟨g,k,none⟩=false:=HT.out.sg.free _
     have d2:((64*k+f+1:Nat):Int)<=m:=by omega
     rw [hn] at NM TS d2 e1 e3
     subst e1
     subst e2
     subst e3
     clear hs hn
     clear p1 p2 d eq c lt hk2 hf
     generalize W.getD k 0 ||| 2 ^ f=z at *
     generalize 18446744073709551615-W.getD k 0=y at *
     generalize W.getD k 0=x at *
     go_wp2_with fail
     refine (Z.out ()).mono ?_
     rintro e w' ⟨rfl,rfl⟩
     go_wp2_with fail
     refine (NM.out _).mono ?_
     rintro e w' ⟨rfl,rfl⟩
     go_wp2
     go_ret2
     exact ⟨rfl,⟨_,TS.out⟩,(Fr.refl _ _ _).setCell (Or.inr (by simp)) _⟩
    ·have hs:=HF.out _ (OO m O λt ht=>(p1 t (by omega)).resolve_right (by omega))
     have e1:V=0:=hs.1
     have e2:E=5:=hs.2.1
     have e3:U=O:=hs.2.2
     subst e1
     subst e2
     subst e3
     clear hs
     have d2:(m:Int)<((64*k+f+1:Nat):Int):=by omega
     generalize 64*k+f+1=n at *
     clear p1 p2 d eq c lt hk2 hf
     generalize 18446744073709551615-W.getD k 0=y at *
     generalize W.getD k 0=x at *
     go_wp2_with fail
     refine (Z.out ()).mono ?_
     rintro e w' ⟨rfl,rfl⟩
     go_wp2_with fail
     refine (NM.out _).mono ?_
     rintro e w' ⟨rfl,rfl⟩
     go_wp2
     go_ret2
     exact ⟨rfl,⟨_,HT.out⟩,Fr.refl _ _ _⟩
  ·have hs:=HF.out _ (OO m O λt ht=>hG.out t (by have h1:=HT.out.wd.len;have h2:=HN.out;omega) ht)
   have e1:V=0:=hs.1
   have e2:E=5:=hs.2.1
   have e3:U=O:=hs.2.2
   subst e1
   subst e2
   subst e3
   clear hs
   go_wp2
   go_ret2
   exact ⟨rfl,⟨_,HT.out⟩,Fr.refl _ _ _⟩
def YA {G:List Int} (hf:f<64) (e:x=2 ^ f*(2*q+1)) (h:G++(ls x).map (λi:Nat=>((64*k+i+1:Nat):Int))=lk W (k+1)):
 (G++[((64*k+f+1:Nat):Int)])++(ls (x&&& (x-1))).map (λi:Nat=>((64*k+i+1:Nat):Int))=lk W (k+1):=by
 rw [mJ x f q hf e] at h
 rw [<- h]
 simp
def Tf (x:Nat) (h:0<x):x&&& (x-1)<x:=by
 have:=Nat.and_le_right (n:=x) (m:=x-1)
 omega
def Ik (w:World) (h:T w b g m W O) (ht:A9 w) (hs:0<w.heap.size):
 Calls prog 309 #[.pointer (some ⟨b,0,none⟩)] w λe w'=>∃ v,e=.returned v/\Gt w w' v (li m O):=by
 obtain ⟨i0,hi,hz0,hz1,hz2⟩:=info_parts Tryz.Dw
 have C:Hid (∀ _:Unit,_):=λ_=>DA w h
 have c0:=h.c0
 have hl:=h.len
 have HT:Hid (T w b g m W O):=h
 have HB:Hid (∀ wr,Below w.heap.size w wr->A9 wr):=λwr hb=>ht.AA hs (by simp) (Fr.AE hb)
 have HC:Hid (∀ wr,Below w.heap.size w wr->wr.cell? ⟨b,0,none⟩=some (.slice (some ⟨g,0,none⟩) W.length W.length)):=λwr hb=>(hb.cell (p:=⟨b,0,none⟩) h.sb.lt).trans h.c0
 have HW:Hid (∀ (wr:World) (j:Nat),Below w.heap.size w wr->(j:Int)<W.length->wr.cell? ⟨g,j,none⟩=some (.int .u64 ((W.getD j 0:Nat):Int))/\W.getD j 0<18446744073709551616):=λwr j hb hj=>⟨(hb.cell (p:=⟨g,j,none⟩) h.sg.lt).trans (h.word (by omega)),h.wd.lt j (by omega)⟩
 have hlen:((li m O).length:Int)<=1024:=by have:=ABU m O;have:=h.wd.m2;omega
 have HE:Hid (lk W W.length=li m O):=X5 h.wd
 obtain ⟨R,hR⟩:∃ R,li m O=R:=⟨_,rfl⟩
 rw [hR] at C hlen HE ⊢
 obtain ⟨N,hN⟩:∃ N,R.length=N:=⟨_,rfl⟩
 rw [hN] at C hlen
 obtain ⟨nw,hn⟩:∃ nw,W.length=nw:=⟨_,rfl⟩
 rw [hn] at c0 hl HC HW HE
 clear h ht hR hN hn
 go_enter func309,ntmps309
 go_wp2_with fail
 refine (C.out ()).mono ?_
 rintro e w' ⟨rfl,rfl⟩
 go_wp2_with (at_make;refine wpList_make_own _ rfl _ _ 122 rfl w'.heap.size 3 i0 (.int .i64 0) 1 underlying122 hi hz0 hz1 _ _ _ N rfl rfl (by omega) (by rw [hz2];omega) (by unfold maxLen;omega) (ADW _) ?_;intro w0 hown0 hgrow0;have g0:Gt w' w0 (.slice (some ⟨w'.heap.size,0,none⟩) 0 N) []:=⟨hown0,(Below.refl _ _).grown hgrow0 (ADW _) (λk hk=>by cases hk)⟩;have k0:=HC.out w0 g0.bel;clear hown0 hgrow0)
 go_loopw [3,16] (λv i wr=>∃ (k:Nat) (G:List Int),(k:Int)<=nw/\i=.int .i64 k/\Gt w' wr v G/\Hid (G=lk W k)) (λ_ i _=>nw-(intOf i).toNat)
 case atStart=>exact ⟨0,[],by omega,rfl,g0,rfl⟩
 case round=>
  obtain ⟨k,G,hk,rfl,gt,hG⟩:=hrel
  clear g0 k0
  by_cases e:(k:Int)<nw
  ·have c1:=HC.out wr gt.bel
   obtain ⟨cg,lt⟩:=HW.out wr k gt.bel e
   have HG:Hid (G++(ls (W.getD k 0)).map (λi:Nat=>((64*k+i+1:Nat):Int))=lk W (k+1)):=by rw [hG.out,KY];exact rfl
   generalize W.getD k 0=x at *
   have GT:Hid (Gt w' wr _ G):=gt
   have lx:Hid ((x:Int)<18446744073709551616):=by unfold Hid;omega
   clear hG gt lt
   go_wp2
   go_loopw [3,5] (λv l wr=>∃ (x:Nat) (G:List Int),l=.int .u64 x/\Hid ((x:Int)<18446744073709551616)/\Gt w' wr v G/\Hid (G++(ls x).map (λi:Nat=>((64*k+i+1:Nat):Int))=lk W (k+1))) (λ_ l _=>(intOf l).toNat)
   case atStart=>exact ⟨x,G,rfl,lx,GT.out,HG⟩
   case round=>
    obtain ⟨y,G2,rfl,hY,gt2,hG2⟩:=hrel
    have hy:=hY.out
    clear GT HG c1 cg lx
    by_cases z:y=0
    ·subst z
     have hG3:Hid (G2=lk W (k+1)):=by
      have:=hG2.out
      rw [ET,List.map_nil,AFl] at this
      exact this
     clear hG2 hy
     go_wp2
     go_roundw
     case rel=>exact ⟨k+1,G2,by omega,by go_num,gt2,hG3⟩
     case measure=>simp [intOf];omega
    ·have Z:Hid (∀ _:Unit,_):=λ_=>Qy y wr (by omega) (by omega) (HB.out wr gt2.bel)
     obtain ⟨q,eq,hf⟩:=F9 64 y (by omega) (by omega)
     generalize Lib.ntzAux 64 y=f at *
     have NM:Hid (∀ w,_):=λw=>MN k f w (by omega) (by omega)
     have hG3:Hid _:=YA hf eq hG2.out
     have hgl:(G2.length:Int)<=1100:=by
      have h1:=AHo List.length hG2.out
      have h2:=ABV W (k+1)
      rw [ADa] at h1
      omega
     have y1:(1:Int)<=y:=by omega
     have ha:bits .and .u64 (y:Int) (IntKind.u64.wrap ((y:Int)-1))=((y&&& (y-1):Nat):Int):=by
      rw [show IntKind.u64.wrap ((y:Int)-1)=((y-1:Nat):Int) by rw [IntKind.wrap_u64];omega]
      exact bits_and_u64_nat y (y-1) (by omega) (by omega)
     have hlt:((y&&& (y-1):Nat):Int)<y:=by have:=Tf y (by omega);omega
     have hsz:=gt2.bel.size
     have GT2:Hid (Gt w' wr _ G2):=gt2
     obtain ⟨n,hn⟩:∃ n,((64*k+f+1:Nat):Int)=n:=⟨_,rfl⟩
     rw [hn] at NM hG3
     generalize y&&& (y-1)=y2 at *
     have hY2:Hid ((y2:Int)<18446744073709551616):=by unfold Hid;omega
     have yb:((y:Int) !=0)=true:=by simp;omega
     have HA:Hid (bits .and .u64 (y:Int) (IntKind.u64.wrap ((y:Int)-1))=(y2:Int)):=ha
     clear hG2 eq hf z hn gt2 hy y1 ha
     go_wp2_with fail
     refine (Z.out ()).mono ?_
     rintro e w1 ⟨rfl,rfl⟩
     go_wp2_with fail
     refine (NM.out _).mono ?_
     rintro e w1 ⟨rfl,rfl⟩
     go_wp2_with (at_builtin;refine wpList_append_own _ rfl _ _ 122 rfl w'.heap.size 3 i0 (.int .i64 0) 1 8 underlying122 hi hz0 hz1 hz2 rfl (by decide) _ _ _ rfl (GT2.out.own.alloc _) ⟨_,0,none⟩ 1 1 [.int .i64 n] rfl rfl ?c1 ?c2 ?c3 ?c4 ?c5 ?_)
     case c1=>
      intro j u hj
      match j,hj with
      | 0,hj=>simp at hj;subst hj;exact (AB.new _ [_] _).cell 0
     case c2=>intro u hu;simp at hu;subst hu;rfl
     case c3=>unfold maxLen;omega
     case c4=>omega
     case c5=>simp;omega
     intro v' w2 hown' hgrow _
     have G3:=Xr GT2.out hown' hgrow
     have ha:=HA.out
     clear hown' hgrow yb
     go_wp2
     go_roundw
     case rel=>exact ⟨y2,_,rfl,hY2,G3,hG3⟩
     case measure=>simp [intOf];omega
  ·have e2:G=R:=by rw [hG.out,show k=nw by omega];exact HE.out
   subst e2
   go_wp2
   go_ret
   exact ⟨_,rfl,gt⟩
end Go.Proofs.YtdlhlfpigcgapaaGreatDoor.Slt

import Derived.Test.YtdlhlfpigcgapaaGreatDoorAZal
import Derived.Test.YtdlhlfpigcgapaaGreatDoorAXq
import Derived.Test.YtdlhlfpigcgapaaGreatDoorAXb
set_option maxRecDepth 100000
set_option maxHeartbeats 16000000
set_option linter.unusedVariables false
set_option linter.unusedSimpArgs false
set_option linter.defProp false
namespace Go.Proofs.YtdlhlfpigcgapaaGreatDoor.Rqb
open Go.Proofs.Tryz
open Fif Rqu
open Go.ChangeShapes Go.WideShapes Go.ChangeAt Go.RowKit
open Mm
def dP:=@As
def Ye:=@CQ
def RX:=@Lj
def PW:=@Dj
def Mk:=@Dz
def li (m:Nat):List Int:=KK (λi=>m.testBit i) 64
def PZ (m:Nat) (w:World) (hm:m<18446744073709551616):
 Calls prog 267 #[.int .u64 m] w λe w'=>∃ v,e=.returned v/\Gt w w' v (li m):=by
 obtain ⟨i0,hi,hz0,hz1,hz2⟩:=info_parts Tryz.Dw
 obtain ⟨p,hp⟩:∃ p:Nat->Bool,(λi=>m.testBit i)=p:=⟨_,rfl⟩
 have HP:Hid (∀ k:Nat,(k:Int)<64->p k=tb m k):=λk hk=>by rw [<- hp];exact (Dx m k (by omega)).symm
 rw [show li m=KK p 64 by rw [li,hp]]
 have CM:Hid (∀ (c:Int) (w:World),_):=λc w=>dP m c w hm
 have CN:Hid (∀ w,_):=λw=>Ye m w hm
 have hN:=KU m
 generalize (ls m).length=N at *
 clear hp hm
 go_enter func267,ntmps267
 go_wp2_with fail
 refine (CN.out _).mono ?_
 rintro e w' ⟨rfl,rfl⟩
 go_wp2_with (at_make;refine wpList_make_own _ rfl _ _ 122 rfl w'.heap.size 3 i0 (.int .i64 0) 1 underlying122 hi hz0 hz1 _ _ _ N rfl rfl (by omega) (by rw [hz2];omega) (by unfold maxLen;omega) (ADW _) ?_;intro w0 hown0 hgrow0)
 have G0:CJ w' w0 (.slice (some ⟨w'.heap.size,0,none⟩) 0 N) p 0:=⟨hown0,(Below.refl _ _).grown hgrow0 (ADW _) (λk hk=>by cases hk)⟩
 clear hown0 hgrow0
 obtain ⟨w,rfl⟩:∃ w,w=w':=⟨_,rfl⟩
 go_loopw [3,8] (λv i wr=>∃ k:Nat,(k:Int)<=64/\i=.int .i64 k/\CJ w wr v p k) (λ_ i _=>64-(intOf i).toNat)
 case atStart=>exact ⟨0,by omega,rfl,G0⟩
 case round=>
  obtain ⟨k,hk,rfl,g⟩:=hrel
  by_cases h:(k:Int)<64
  ·have hpk:=HP.out k h
   cases ha:tb m k with
   | false=>
    have C1:Hid (∀ w,_):=λw=>CM.out k w
    rw [ha] at C1 hpk
    have G2:=Ii g hpk
    clear ha hpk
    go_wp2_with fail
    refine (C1.out _).mono ?_
    rintro e w' ⟨rfl,rfl⟩
    go_wp2
    go_roundw
    case rel=>exact ⟨k+1,by omega,by go_num,G2⟩
    case measure=>simp [intOf];omega
   | true=>
    have C1:Hid (∀ w,_):=λw=>CM.out k w
    rw [ha] at C1 hpk
    have hkl:=Gj p k
    have hsz:=g.bel.size
    have HK:Hid (p k=true):=hpk
    clear ha hpk
    go_wp2_with fail
    refine (C1.out _).mono ?_
    rintro e w' ⟨rfl,rfl⟩
    go_wp2_with (at_builtin;refine wpList_append_own _ rfl _ _ 122 rfl w.heap.size 3 i0 (.int .i64 0) 1 8 underlying122 hi hz0 hz1 hz2 rfl (by decide) _ _ _ rfl (g.own.alloc _) ⟨_,0,none⟩ 1 1 [.int .i64 (k:Int)] rfl rfl ?c1 ?c2 ?c3 ?c4 ?c5 ?_)
    case c1=>
     intro j u hj
     match j,hj with
     | 0,hj=>simp at hj;subst hj;simp [Addr.add]
    case c2=>intro u hu;simp at hu;subst hu;rfl
    case c3=>unfold maxLen;omega
    case c4=>omega
    case c5=>simp;omega
    intro v' w1 hown' hgrow _
    have G2:=Lk g HK.out hown' hgrow
    clear hown' hgrow
    go_wp2
    go_roundw
    case rel=>exact ⟨k+1,by omega,by go_num,G2⟩
    case measure=>simp [intOf];omega
  ·obtain rfl:k=64:=by omega
   have HG:Hid (Gt w wr u3 (KK p 64)):=⟨g.own,g.bel⟩
   obtain ⟨a,cap,hv⟩:=An g.own
   rw [hv] at HG
   clear g
   go_wp2
   go_ret
   exact ⟨_,rfl,HG.out⟩
open Fm Qm
variable {w:World} {L:List Int} {m n s:Nat} {K:Ks} {p q:Nat->Bool}
section
variable (f:Int->Int) (bt:Int->Int->Bool)
def bs (L:List Int):Int:=L.foldl (λa c=>if a<0\/bt (f c) (f a)=true then c else a) (-1)
def Ul (L:List Int) (c:Int):bs f bt (L++[c])=if bs f bt L<0\/bt (f c) (f (bs f bt L))=true then c else bs f bt L:=by
 unfold bs
 rw [AFE]
 rfl
def AB3 (L:List Int):bs f bt L=-1\/bs f bt L∈L:=by
 unfold bs
 have:∀ (L:List Int) (a:Int),L.foldl (λa c=>if a<0\/bt (f c) (f a)=true then c else a) a=a\/L.foldl (λa c=>if a<0\/bt (f c) (f a)=true then c else a) a∈L:=by
  intro L
  induction L with
  | nil=>intro a;exact Or.inl rfl
  | cons x r ih=>
   intro a
   rw [List.foldl_cons]
   rcases ih (if a<0\/bt (f x) (f a)=true then x else a) with h | h
   ·rw [h]
    by_cases c:a<0\/bt (f x) (f a)=true
    ·rw [AHi c];exact Or.inr (by simp)
    ·rw [AHh c];exact Or.inl rfl
   ·exact Or.inr (ADV _ h)
 exact this L (-1)
def Yf (hL:L≠[]) (h0:∀ c∈L,0<=c):0<=bs f bt L:=by
 obtain ⟨r,c,rfl⟩:∃ r c,L=r++[c]:=⟨L.dropLast,L.getLast hL,(List.dropLast_concat_getLast hL).symm⟩
 rw [Ul]
 by_cases q:bs f bt r<0\/bt (f c) (f (bs f bt r))=true
 ·rw [AHi q];exact h0 c (by simp)
 ·rw [AHh q]
  have:=λe=>q (Or.inl e)
  omega
def DN (L:List Int) (j:Nat):Int:=if j=0 then L.headD 0 else bs f bt (L.take j)
def RY (h0:∀ c∈L,0<=c) {j:Nat} (hj:j<L.length):DN f bt L (j+1)=if bt (f (L.getD j 0)) (f (DN f bt L j))=true then L.getD j 0 else DN f bt L j:=by
 have hg:L.getD j 0=L[j]:=by rw [ADY,ADZ hj];rfl
 have ht:L.take (j+1)=L.take j++[L.getD j 0]:=by rw [hg,List.take_add_one,ADZ hj];rfl
 unfold DN
 rw [AHh (by omega),ht,Ul]
 by_cases e:j=0
 ·subst e
  rw [AHi rfl,show bs f bt (L.take 0)=-1 from by rw [List.take_zero];rfl,AHi (Or.inl (by decide))]
  have:L.headD 0=L.getD 0 0:=by cases L <;> rfl
  rw [this]
  split <;> rfl
 ·rw [AHh e]
  have hp:=Yf f bt (L:=L.take j) (λq=>by have:=AHo List.length q;rw [AEW,AEh] at this;omega) (λc hc=>h0 c (AFZ hc))
  have e2:(bs f bt (L.take j)<0\/bt (f (L.getD j 0)) (f (bs f bt (L.take j)))=true)↔bt (f (L.getD j 0)) (f (bs f bt (L.take j)))=true:=⟨λq=>by rcases q with q | q;omega;exact q,Or.inr⟩
  by_cases c:bt (f (L.getD j 0)) (f (bs f bt (L.take j)))=true
  ·rw [AHi c,AHi (Or.inr c)]
  ·rw [AHh c,AHh (λq=>c (e2.1 q))]
end
def bc (m n:Nat):List Int:=KK (λi=>m.testBit i) n
def RZ (p:Nat->Bool) (n:Nat):∀ c∈KK p n,(0:Int)<=c:=by
 intro c hc
 unfold KK at hc
 obtain ⟨i,_,rfl⟩:=AE6.1 hc
 omega
def dQ (h:∀ i,i<n->p i=q i):KK p n=KK q n:=by
 unfold KK
 congr 1
 exact AEN λi hi=>h i (ADk.1 hi)
def vH (h:∀ i,i<n->q i=p i) (h0:∀ i,n<=i->q i=false) (k:Nat):KK q (n+k)=KK p n:=by
 induction k with
 | zero=>exact dQ h
 | succ k ih=>rw [<- AFd,UT q (n+k) (h0 _ (by omega)),ih]
def Qd (m n:Nat) (hn:n<=64):li (m&&& Mm.up n)=bc m n:=by
 have:=vH (p:=λi=>m.testBit i) (q:=λi=>(m&&& Mm.up n).testBit i) (n:=n) (λi hi=>by
  rw [ADp,Mm.JY,AHj (by omega),Bool.and_true]) (λi hi=>by
  rw [ADp,Mm.JY,AHk (by omega),AGB]) (64-n)
 rw [show n+(64-n)=64 by omega] at this
 exact this
def kE (m:Nat):li m=(Mm.ls m).map λi:Nat=>(i:Int):=rfl
def kF (m:Nat):((Mm.hd (Mm.ls m):Nat):Int)=(li m).headD 0:=by
 rw [kE]
 unfold Mm.hd
 cases Mm.ls m <;> rfl
def kG (m:Nat):Mm.er (Mm.ls m)=if li m=[] then 12 else 0:=by
 rw [kE]
 unfold Mm.er
 cases Mm.ls m <;> rfl
def JH (f:Int->Int) (bt:Int->Int->Bool) (L:List Int):Int:=if L=[] then 0 else bs f bt L
def E1 (L:List Int):Int:=if L=[] then 12 else 0
def Um (f:Int->Int) (bt:Int->Int->Bool) (L:List Int):DN f bt L L.length=JH f bt L:=by
 unfold DN JH
 by_cases e:L=[]
 ·subst e;rfl
 ·have:L.length≠0:=λq=>e (List.length_eq_zero_iff.1 q)
  rw [AHh this,AHh e,AEV]
def Ml (x y:Int):Bool:=decide (y<x)
def Mn (x y:Int):Bool:=decide (x<y)
def dR (x y:Int) (w:World):Calls prog 213 #[.int .i64 x,.int .i64 y] w λe w'=>e=.returned (.bool (Ml x y))/\w'=w:=by
 unfold Ml
 go_enter func213,ntmps213
 go_wp2
 go_ret
 exact ⟨rfl,rfl⟩
def dS (x y:Int) (w:World):Calls prog 214 #[.int .i64 x,.int .i64 y] w λe w'=>e=.returned (.bool (Mn x y))/\w'=w:=by
 unfold Mn
 go_enter func214,ntmps214
 go_wp2
 go_ret
 exact ⟨rfl,rfl⟩
def AB4 (mk:Nat) (hm:mk<18446744073709551616) (ht:A9 w) (h:RR w s n m K):
 Calls prog 212 #[.pointer (some ⟨s+2,0,none⟩),.int .u64 mk,.func (.func 213) #[] #[]] w λe w'=>e=.returned (.tuple #[.int .i64 (JH (Bs n K) Ml (bc mk n)),.int .i64 (E1 (bc mk n))])/\Below w.heap.size w w':=by
 have hn:=h.rb.n2
 have hu:mk&&& Mm.up n<18446744073709551616:=AEb Nat.and_le_left hm
 have U:Hid (∀ _:Unit,_):=λ_=>PW (n:Int) w
 have N:Hid (∀ _:Unit,_):=λ_=>RX mk (Mm.up n) w hm (Mm.Dy n)
 have F:Hid (∀ _:Unit,_):=λ_=>Mk (mk&&& Mm.up n) w hu ht
 have L:Hid (∀ _:Unit,_):=λ_=>PZ (mk&&& Mm.up n) w hu
 rw [kF,kG,Qd mk n hn] at F
 rw [Qd mk n hn] at L
 have hE:E1 (bc mk n)=if bc mk n=[] then 12 else 0:=rfl
 rw [<- hE] at F
 rw [<- Um]
 have H0:DN (Bs n K) Ml (bc mk n) 0=(bc mk n).headD 0:=AHi rfl
 rw [<- H0] at F
 have hl:(bc mk n).length<=64:=ADd (Gj _ _) hn
 have ST:Hid (∀ j,j<(bc mk n).length->_):=λj hj=>RY (Bs n K) Ml (RZ _ _) (L:=bc mk n) hj
 have LD:Hid (∀ (w2:World) (c:Int),Below w.heap.size w w2->Calls prog 50 #[.pointer (some ⟨s+2,0,none⟩),.int .i64 c] w2 λe w'=>e=.returned (.int .i64 (Bs n K c))/\w'=w2):=λw2 c f=>Lx c (h.below f)
 obtain ⟨bt,hbt⟩:∃ bt,Ml=bt:=⟨_,rfl⟩
 have HF:Hid (∀ (x y:Int) (w:World),_):=dR
 rw [hbt] at HF ST F
 rw [hbt]
 clear hbt
 have c0:=h.rb.c0
 generalize E1 (bc mk n)=ee at *
 generalize bc mk n=B at *
 generalize mk&&& Mm.up n=mu at *
 generalize Mm.up n=mv at *
 generalize Bs n K=f at *
 clear h hm ht hu hE H0
 obtain ⟨l,hl'⟩:∃ l,B.length=l:=⟨_,rfl⟩
 rw [hl'] at ST hl
 rw [hl']
 have HL:Hid (B.length=l):=hl'
 clear hl'
 go_enter func212,ntmps212
 go_wp2_with fail
 refine (U.out ()).mono ?_
 rintro e w' ⟨rfl,rfl⟩
 go_wp2_with fail
 refine (N.out ()).mono ?_
 rintro e w' ⟨rfl,rfl⟩
 go_wp2_with fail
 refine (F.out ()).mono ?_
 rintro e w' ⟨rfl,rfl⟩
 go_wp2_with fail
 refine (L.out ()).mono ?_
 rintro e w2 ⟨v,rfl,g2⟩
 have o2:=g2.own
 rw [HL.out] at o2
 have b2:Hid (Below w'.heap.size w' w2):=g2.bel
 obtain ⟨a2,c2,rfl⟩:=An o2
 have CE:Hid (∀ j:Nat,(j:Int)<l->∃ b,a2=some ⟨b,0,none⟩/\w2.cell? ⟨b,j,none⟩=some (.int .i64 (B.getD j 0))):=λj hj=>Qt o2 hj
 have cap2:(l:Int)<=c2:=by
  rcases o2.2 with ⟨e,e2⟩ | ⟨g,cap,cur,e,_,_,hc,_⟩
  ·omega
  ·simp only [Value.slice.injEq] at e;omega
 clear g2 o2 F L N U c0
 go_wp2
 go_loop [9,31] (λa i=>∃ j:Nat,(j:Int)<=l/\i=.int .i64 (j:Int)/\a=.int .i64 (DN f bt B j)) (λ_ i=>l-(intOf i).toNat)
 case atStart=>exact ⟨0,by omega,rfl,rfl⟩
 case round=>
  obtain ⟨j,hj,rfl,rfl⟩:=hrel
  by_cases c:(j:Int)<l
  ·obtain ⟨bb,rfl,hc⟩:=CE.out j c
   have s1:=ST.out j (by omega)
   have L1:Hid (∀ _:Unit,_):=λ_=>LD.out w2 (B.getD j 0) b2.out
   have L2:Hid (∀ _:Unit,_):=λ_=>LD.out w2 (DN f bt B j) b2.out
   have L3:Hid (∀ _:Unit,_):=λ_=>HF.out (f (B.getD j 0)) (f (DN f bt B j)) w2
   obtain ⟨q,hq⟩:∃ q,bt (f (B.getD j 0)) (f (DN f bt B j))=q:=⟨_,rfl⟩
   rw [hq] at s1 L3
   generalize B.getD j 0=x at *
   have S1:Hid (DN f bt B (j+1)=if q=true then x else DN f bt B j):=s1
   generalize DN f bt B j=y at *
   clear s1 hq
   go_wp2_with fail
   refine (L1.out ()).mono ?_
   rintro e w3 ⟨rfl,rfl⟩
   go_wp2_with fail
   refine (L2.out ()).mono ?_
   rintro e w3 ⟨rfl,rfl⟩
   go_wp2_with fail
   refine (L3.out ()).mono ?_
   rintro e w3 ⟨rfl,rfl⟩
   cases q with
   | true=>
    go_wp2
    go_round
    case rel=>exact ⟨j+1,by omega,by go_num,by rw [S1.out];rfl⟩
    case measure=>simp [intOf];omega
   | false=>
    go_wp2
    go_round
    case rel=>exact ⟨j+1,by omega,by go_num,by rw [S1.out];rfl⟩
    case measure=>simp [intOf];omega
  ·obtain rfl:j=l:=by omega
   go_wp2
   go_ret2
   exact ⟨rfl,b2.out⟩
def AB5 (mk:Nat) (hm:mk<18446744073709551616) (ht:A9 w) (h:RR w s n m K):
 Calls prog 212 #[.pointer (some ⟨s+2,0,none⟩),.int .u64 mk,.func (.func 214) #[] #[]] w λe w'=>e=.returned (.tuple #[.int .i64 (JH (Bs n K) Mn (bc mk n)),.int .i64 (E1 (bc mk n))])/\Below w.heap.size w w':=by
 have hn:=h.rb.n2
 have hu:mk&&& Mm.up n<18446744073709551616:=AEb Nat.and_le_left hm
 have U:Hid (∀ _:Unit,_):=λ_=>PW (n:Int) w
 have N:Hid (∀ _:Unit,_):=λ_=>RX mk (Mm.up n) w hm (Mm.Dy n)
 have F:Hid (∀ _:Unit,_):=λ_=>Mk (mk&&& Mm.up n) w hu ht
 have L:Hid (∀ _:Unit,_):=λ_=>PZ (mk&&& Mm.up n) w hu
 rw [kF,kG,Qd mk n hn] at F
 rw [Qd mk n hn] at L
 have hE:E1 (bc mk n)=if bc mk n=[] then 12 else 0:=rfl
 rw [<- hE] at F
 rw [<- Um]
 have H0:DN (Bs n K) Mn (bc mk n) 0=(bc mk n).headD 0:=AHi rfl
 rw [<- H0] at F
 have hl:(bc mk n).length<=64:=ADd (Gj _ _) hn
 have ST:Hid (∀ j,j<(bc mk n).length->_):=λj hj=>RY (Bs n K) Mn (RZ _ _) (L:=bc mk n) hj
 have LD:Hid (∀ (w2:World) (c:Int),Below w.heap.size w w2->Calls prog 50 #[.pointer (some ⟨s+2,0,none⟩),.int .i64 c] w2 λe w'=>e=.returned (.int .i64 (Bs n K c))/\w'=w2):=λw2 c f=>Lx c (h.below f)
 obtain ⟨bt,hbt⟩:∃ bt,Mn=bt:=⟨_,rfl⟩
 have HF:Hid (∀ (x y:Int) (w:World),_):=dS
 rw [hbt] at HF ST F
 rw [hbt]
 clear hbt
 have c0:=h.rb.c0
 generalize E1 (bc mk n)=ee at *
 generalize bc mk n=B at *
 generalize mk&&& Mm.up n=mu at *
 generalize Mm.up n=mv at *
 generalize Bs n K=f at *
 clear h hm ht hu hE H0
 obtain ⟨l,hl'⟩:∃ l,B.length=l:=⟨_,rfl⟩
 rw [hl'] at ST hl
 rw [hl']
 have HL:Hid (B.length=l):=hl'
 clear hl'
 go_enter func212,ntmps212
 go_wp2_with fail
 refine (U.out ()).mono ?_
 rintro e w' ⟨rfl,rfl⟩
 go_wp2_with fail
 refine (N.out ()).mono ?_
 rintro e w' ⟨rfl,rfl⟩
 go_wp2_with fail
 refine (F.out ()).mono ?_
 rintro e w' ⟨rfl,rfl⟩
 go_wp2_with fail
 refine (L.out ()).mono ?_
 rintro e w2 ⟨v,rfl,g2⟩
 have o2:=g2.own
 rw [HL.out] at o2
 have b2:Hid (Below w'.heap.size w' w2):=g2.bel
 obtain ⟨a2,c2,rfl⟩:=An o2
 have CE:Hid (∀ j:Nat,(j:Int)<l->∃ b,a2=some ⟨b,0,none⟩/\w2.cell? ⟨b,j,none⟩=some (.int .i64 (B.getD j 0))):=λj hj=>Qt o2 hj
 have cap2:(l:Int)<=c2:=by
  rcases o2.2 with ⟨e,e2⟩ | ⟨g,cap,cur,e,_,_,hc,_⟩
  ·omega
  ·simp only [Value.slice.injEq] at e;omega
 clear g2 o2 F L N U c0
 go_wp2
 go_loop [9,31] (λa i=>∃ j:Nat,(j:Int)<=l/\i=.int .i64 (j:Int)/\a=.int .i64 (DN f bt B j)) (λ_ i=>l-(intOf i).toNat)
 case atStart=>exact ⟨0,by omega,rfl,rfl⟩
 case round=>
  obtain ⟨j,hj,rfl,rfl⟩:=hrel
  by_cases c:(j:Int)<l
  ·obtain ⟨bb,rfl,hc⟩:=CE.out j c
   have s1:=ST.out j (by omega)
   have L1:Hid (∀ _:Unit,_):=λ_=>LD.out w2 (B.getD j 0) b2.out
   have L2:Hid (∀ _:Unit,_):=λ_=>LD.out w2 (DN f bt B j) b2.out
   have L3:Hid (∀ _:Unit,_):=λ_=>HF.out (f (B.getD j 0)) (f (DN f bt B j)) w2
   obtain ⟨q,hq⟩:∃ q,bt (f (B.getD j 0)) (f (DN f bt B j))=q:=⟨_,rfl⟩
   rw [hq] at s1 L3
   generalize B.getD j 0=x at *
   have S1:Hid (DN f bt B (j+1)=if q=true then x else DN f bt B j):=s1
   generalize DN f bt B j=y at *
   clear s1 hq
   go_wp2_with fail
   refine (L1.out ()).mono ?_
   rintro e w3 ⟨rfl,rfl⟩
   go_wp2_with fail
   refine (L2.out ()).mono ?_
   rintro e w3 ⟨rfl,rfl⟩
   go_wp2_with fail
   refine (L3.out ()).mono ?_
   rintro e w3 ⟨rfl,rfl⟩
   cases q with
   | true=>
    go_wp2
    go_round
    case rel=>exact ⟨j+1,by omega,by go_num,by rw [S1.out];rfl⟩
    case measure=>simp [intOf];omega
   | false=>
    go_wp2
    go_round
    case rel=>exact ⟨j+1,by omega,by go_num,by rw [S1.out];rfl⟩
    case measure=>simp [intOf];omega
  ·obtain rfl:j=l:=by omega
   go_wp2
   go_ret2
   exact ⟨rfl,b2.out⟩
def Tl (mk:Nat) (hm:mk<18446744073709551616) (ht:A9 w) (h:RR w s n m K):
 Calls prog 150 #[.pointer (some ⟨s+2,0,none⟩),.int .u64 mk] w λe w'=>e=.returned (.tuple #[.int .i64 (JH (Bs n K) Ml (bc mk n)),.int .i64 (E1 (bc mk n))])/\Below w.heap.size w w':=by
 have C:Hid (∀ _:Unit,_):=λ_=>AB4 mk hm ht h
 generalize JH (Bs n K) Ml (bc mk n)=x at *
 generalize E1 (bc mk n)=y at *
 clear h hm ht
 go_enter func150,ntmps150
 go_wp2_with fail
 refine (C.out ()).mono ?_
 rintro e w' ⟨rfl,b⟩
 go_wp2
 go_ret2
 exact ⟨rfl,b⟩
def WB (mk:Nat) (hm:mk<18446744073709551616) (ht:A9 w) (h:RR w s n m K):
 Calls prog 151 #[.pointer (some ⟨s+2,0,none⟩),.int .u64 mk] w λe w'=>e=.returned (.tuple #[.int .i64 (JH (Bs n K) Mn (bc mk n)),.int .i64 (E1 (bc mk n))])/\Below w.heap.size w w':=by
 have C:Hid (∀ _:Unit,_):=λ_=>AB5 mk hm ht h
 generalize JH (Bs n K) Mn (bc mk n)=x at *
 generalize E1 (bc mk n)=y at *
 clear h hm ht
 go_enter func151,ntmps151
 go_wp2_with fail
 refine (C.out ()).mono ?_
 rintro e w' ⟨rfl,b⟩
 go_wp2
 go_ret2
 exact ⟨rfl,b⟩
end Go.Proofs.YtdlhlfpigcgapaaGreatDoor.Rqb

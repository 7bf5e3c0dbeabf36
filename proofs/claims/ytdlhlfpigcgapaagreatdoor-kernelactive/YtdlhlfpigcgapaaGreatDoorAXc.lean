import Derived.Test.YtdlhlfpigcgapaaGreatDoorAZal
import Derived.Test.YtdlhlfpigcgapaaGreatDoorAXf
import Derived.Test.YtdlhlfpigcgapaaGreatDoorAXw
set_option maxRecDepth 100000
set_option maxHeartbeats 16000000
set_option linter.unusedVariables false
set_option linter.unusedSimpArgs false
set_option linter.defProp false
namespace Go.Proofs.YtdlhlfpigcgapaaGreatDoor.Cm
open Go.Proofs.Tryz
open Fif
open Fm Sl
variable {id:Int} {L:List Int} {c i k n:Nat} {O:Nat->Bool}
abbrev Ks:=List (List Int)
def ks (K:Ks) (c:Nat):List Int:=K.getD c []
def BE (K:Ks) (c i:Nat) (X:List Int) (hc:c<K.length):ks (K.set c X) i=if i=c then X else ks K i:=by
 unfold ks
 rw [ADY,AD6]
 by_cases e:c=i
 ·subst e
  simp [hc]
 ·rw [AHh e,AHh (λg=>e g.symm),ADY]
def WY {K:Ks} (h:id∈ks K c):c<K.length:=by
 rcases Nat.lt_or_ge c K.length with q | q
 ·exact q
 ·unfold ks at h
  rw [ADY,ADg q] at h
  simp at h
def H9 (n c:Nat):ks (List.replicate n []) c=[]:=by
 unfold ks
 rw [ADY,AEA]
 split <;> rfl
def De (K:Ks) (c:Nat) (X:List Int) (h:ks K c=X):K.set c X=K:=by
 apply AEH
 intro i
 rw [AD6]
 by_cases e:c=i
 ·subst e
  unfold ks at h
  rw [ADY] at h
  rw [AHi rfl]
  split
  ·rename_i q
   rw [ADZ q] at h ⊢
   simp at h
   rw [h]
  ·rename_i q
   rw [ADg (by omega)]
 ·rw [AHh e]
def AG (K:Ks) (id:Int):Option Nat:=(List.range K.length).find? λc=>decide (id∈ks K c)
def oc (K:Ks) (i:Nat):Bool:=(AG K (i:Int)).isSome
structure Al (K:Ks):Prop where
 nd:∀ c,(ks K c).Nodup
 one:∀ c d id,id∈ks K c->id∈ks K d->c=d
 rg:∀ c,∀ id∈ks K c,1<=id/\id<=32
def Bn {K:Ks} (h:AG K id=some c):id∈ks K c:=by
 have:=AEo h
 simpa using this
def At {K:Ks}:AG K id=none↔∀ c,id∉ks K c:=by
 unfold AG
 rw [ADw]
 constructor
 ·intro h c hc
  have:=h c (ADk.2 (WY hc))
  simp [hc] at this
 ·intro h c _
  simp [h c]
def Ah {K:Ks} (h:Al K):AG K id=some c↔id∈ks K c:=by
 refine ⟨Bn,λhi=>?_⟩
 cases e:AG K id with
 | none=>exact absurd hi (At.1 e c)
 | some d=>rw [h.one d c id (Bn e) hi]
def I0 {K:Ks}:oc K i=false↔AG K (i:Int)=none:=by
 unfold oc
 cases AG K (i:Int) <;> simp
def M9 (n:Nat):Al (List.replicate n []):=by
 refine ⟨λc=>?_,λc d id h=>?_,λc id h=>?_⟩
 ·rw [H9];exact List.Pairwise.nil
 ·rw [H9] at h;simp at h
 ·rw [H9] at h;simp at h
def H4 (n:Nat) (id:Int):AG (List.replicate n []) id=none:=At.2 λc=>by rw [H9];simp
def ZG (n:Nat):oc (List.replicate n [])=λ_=>false:=funext λi=>by rw [I0];exact H4 n _
def Fp {K:Ks} (h:Al K) (hc:c<K.length) (hn:AG K id=none) (h1:1<=id) (h2:id<=32):
 Al (K.set c (ks K c++[id]))/\∀ j,AG (K.set c (ks K c++[id])) j=if j=id then some c else AG K j:=by
 have no:=At.1 hn
 have m:∀ e j,j∈ks (K.set c (ks K c++[id])) e↔j∈ks K e\/(e=c/\j=id):=λe j=>by
  rw [BE _ _ _ _ hc]
  by_cases q:e=c
  ·subst q
   simp
  ·simp [q]
 have A:Al (K.set c (ks K c++[id])):=by
  refine ⟨λe=>?_,λe f j g1 g2=>?_,λe j g=>?_⟩
  ·rw [BE _ _ _ _ hc]
   split
   ·rw [AFF]
    refine ⟨h.nd c,AF7.2 ⟨by simp,List.Pairwise.nil⟩,λa ha b hb=>?_⟩
    simp at hb
    subst hb
    exact λe=>no c (e ▸ ha)
   ·exact h.nd e
  ·rcases (m e j).1 g1 with g1 | ⟨r1,r2⟩ <;> rcases (m f j).1 g2 with g2 | ⟨s1,s2⟩
   ·exact h.one e f j g1 g2
   ·exact absurd (s2 ▸ g1) (no e)
   ·exact absurd (r2 ▸ g2) (no f)
   ·omega
  ·rcases (m e j).1 g with g | ⟨_,r⟩
   ·exact h.rg e j g
   ·omega
 refine ⟨A,λj=>Option.ext λe=>?_⟩
 rw [Ah A,m]
 by_cases r:j=id
 ·subst r
  simp [no e]
  exact ⟨λz=>z.symm,λz=>z.symm⟩
 ·rw [AHh r,Ah h]
  simp [r]
def ZH (L:List Int) (n j:Int):j∈wo L n↔j∈L/\j≠n:=by
 unfold wo
 rw [AD9]
 simp
def RV {K:Ks} (h:Al K) (hi:id∈ks K c):
 Al (K.set c (wo (ks K c) id))/\∀ j,AG (K.set c (wo (ks K c) id)) j=if j=id then none else AG K j:=by
 have hc:=WY hi
 have m:∀ e j,j∈ks (K.set c (wo (ks K c) id)) e↔j∈ks K e/\j≠id:=λe j=>by
  rw [BE _ _ _ _ hc]
  by_cases q:e=c
  ·subst q
   rw [AHi rfl,ZH]
  ·rw [AHh q]
   refine ⟨λg=>⟨g,λr=>q ?_⟩,λg=>g.1⟩
   subst r
   exact h.one e c j g hi
 have A:Al (K.set c (wo (ks K c) id)):=by
  refine ⟨λe=>?_,λe f j g1 g2=>?_,λe j g=>?_⟩
  ·rw [BE _ _ _ _ hc]
   split
   ·exact Ln _ _ (h.nd c)
   ·exact h.nd e
  ·exact h.one e f j ((m e j).1 g1).1 ((m f j).1 g2).1
  ·exact h.rg e j ((m e j).1 g).1
 refine ⟨A,λj=>Option.ext λe=>?_⟩
 rw [Ah A,m]
 by_cases r:j=id
 ·rw [AHi r]
  simp [r]
 ·rw [AHh r,Ah h]
  simp [r]
def ABf (h:L.Nodup) (hp:L≠[]):wo L (L.headD 0)=L.tail:=by
 cases L with
 | nil=>exact absurd rfl hp
 | cons a t=>exact UX t a h
def Bp (hp:L≠[]):L.headD 0∈L:=by
 cases L with
 | nil=>exact absurd rfl hp
 | cons a t=>simp
def Rt {K:Ks} (h:Al K) (hp:ks K c≠[]):
 Al (K.set c (ks K c).tail)/\∀ j,AG (K.set c (ks K c).tail) j=if j=(ks K c).headD 0 then none else AG K j:=by
 have:=RV h (Bp hp)
 rwa [ABf (h.nd c) hp] at this
def mv (K:Ks) (a b:Nat):Ks:=if ks K a=[] then K else (K.set a (ks K a).tail).set b (ks K b++[(ks K a).headD 0])
def Oi {K:Ks} (h:Al K) {a b:Nat} (hb:b<K.length) (hn:a≠b) (hp:ks K a≠[]):
 Al ((K.set a (ks K a).tail).set b (ks K b++[(ks K a).headD 0]))/\∀ j,AG ((K.set a (ks K a).tail).set b (ks K b++[(ks K a).headD 0])) j=if j=(ks K a).headD 0 then some b else AG K j:=by
 obtain ⟨A1,e1⟩:=Rt h hp
 have hr:=h.rg a _ (Bp hp)
 have ha:=WY (Bp hp)
 have eb:ks (K.set a (ks K a).tail) b=ks K b:=by rw [BE _ _ _ _ ha,AHh (λq=>hn q.symm)]
 obtain ⟨A2,e2⟩:=Fp A1 (c:=b) (by simpa using hb) (id:=(ks K a).headD 0) (by rw [e1,AHi rfl]) hr.1 hr.2
 rw [eb] at A2 e2
 refine ⟨A2,λj=>?_⟩
 rw [e2,e1]
 split <;> rfl
def Yt:∀ (m:Nat) (L:List Int),L.Nodup->(∀ x∈L,1<=x/\x<=(m:Int))->L.length<=m
 | 0,L,_,h=>by
  cases L with
  | nil=>simp
  | cons a t=>have:=h a (by simp);omega
 | m+1,L,hn,h=>by
  have ih:=Yt m (wo L ((m:Int)+1)) (Ln _ _ hn) λx hx=>by
   obtain ⟨h1,h2⟩:=(ZH _ _ _).1 hx
   have:=h x h1
   omega
  by_cases q:((m:Int)+1)∈L
  ·have e:wo L ((m:Int)+1)=L.erase ((m:Int)+1):=(List.Nodup.erase_eq_filter hn _).symm
   rw [e,List.length_erase_of_mem q] at ih
   omega
  ·rw [Kd _ _ q] at ih
   omega
def Al.len {K:Ks} (h:Al K) (c:Nat):(ks K c).length<=32:=Yt 32 _ (h.nd c) (h.rg c)
def Al.room {K:Ks} (h:Al K) (hn:AG K id=none) (h1:1<=id) (h2:id<=32) (hc:c<K.length):(ks K c).length<32:=by
 have:=(Fp h hc hn h1 h2).1.len c
 rw [BE _ _ _ _ hc,AHi rfl] at this
 simp at this
 omega
def Kr (hn:id∉L) (hl:L.length<32):pE 32 L id=0/\pL 32 L id=L++[id]:=by
 unfold pE pL
 rw [AHh hn,AHh hn,AHh (by omega),AHh (by omega)]
 exact ⟨rfl,rfl⟩
def Ay (O:Nat->Bool):Nat:=(List.range 32).countP λi=>O (i+1)
def Ey (O:Nat->Bool):Ay O<=32:=by
 have:=List.countP_le_length (p:=λi=>O (i+1)) (l:=List.range 32)
 rwa [List.length_range] at this
def ZI {O P:Nat->Bool} {k:Nat} (h:∀ j,j≠k->P j=O j) (hp:P k=true) (hq:O k=false):∀ m,(List.range m).countP (λi=>P (i+1))=(List.range m).countP (λi=>O (i+1))+if 1<=k/\k<=m then 1 else 0
 | 0=>by
  rw [AHh (by omega)]
  rfl
 | m+1=>by
  rw [AEK,AFa,AFa,ZI h hp hq m]
  by_cases e:m+1=k
  ·subst e
   rw [AHh (by omega),AHi (by omega)]
   simp [hp,hq]
  ·rw [show List.countP (λi=>P (i+1)) [m]=List.countP (λi=>O (i+1)) [m] by simp [AFg,h _ e]]
   by_cases q:1<=k/\k<=m
   ·rw [AHi q,AHi (by omega)]
    omega
   ·rw [AHh q,AHh (by omega)]
    omega
def Jm {P:Nat->Bool} (h1:1<=k) (h2:k<=32) (h:∀ j,j≠k->P j=O j) (hp:P k=true) (hq:O k=false):Ay P=Ay O+1:=by
 have:=ZI h hp hq 32
 rw [AHi ⟨h1,h2⟩] at this
 exact this
def AW (n:Nat) (c:Int):Bool:=decide (0<=c/\c<n)
def By {c:Int} (h:AW n c=true):0<=c/\c<n:=of_decide_eq_true h
def Dp {c:Int} (h:AW n c=true):∃ k:Nat,c=(k:Int)/\k<n/\(k:Int)<n:=by
 have:=By h
 exact ⟨c.toNat,by omega,by omega,by omega⟩
def Pp {c:Int} (h:AW n c=false):c<0\/(0<=c/\(n:Int)<=c):=by
 have:=of_decide_eq_false h
 omega
def nx (K:Ks):Option Nat:=ff 32 (oc K)
def NF (K:Ks) (k:Nat):Option Nat->Ks
 | some i=>K.set k (ks K k++[((i+1:Nat):Int)])
 | none=>K
def Cp {K:Ks} (h:nx K=some i):i<32/\AG K ((i+1:Nat):Int)=none:=by
 have h1:=AEo h
 have h2:=AEG h
 simp only [AHr] at h1
 exact ⟨ADk.1 h2,I0.1 h1⟩
def kQ (K:Ks) (c:Int):Int:=if AW K.length c=true then tN (nx K) else 0
def kR (K:Ks) (c:Int):Int:=if AW K.length c=true then tE (nx K) else 3
def Ru (K:Ks) (c:Int):Ks:=if AW K.length c=true then NF K c.toNat (nx K) else K
def LO (K:Ks) (c:Int):Int:=if AW K.length c=true then (ks K c.toNat).headD 0 else 0
def kS (K:Ks) (c:Int):Int:=if AW K.length c=true then fE (ks K c.toNat) else 3
def NH (K:Ks) (c:Int):Ks:=if AW K.length c=true then K.set c.toNat (ks K c.toNat).tail else K
def Rl (K:Ks) (a b:Int):Int:=if AW K.length a=true/\AW K.length b=true/\a≠b then (ks K a.toNat).headD 0 else 0
def GQ (K:Ks) (a b:Int):Int:=if AW K.length a=true/\AW K.length b=true then if a=b then 2 else fE (ks K a.toNat) else 3
def DV (K:Ks) (a b:Int):Ks:=if AW K.length a=true/\AW K.length b=true/\a≠b then mv K a.toNat b.toNat else K
def LP (K:Ks) (c:Int):List Int:=if AW K.length c=true then ks K c.toNat else []
def JK (K:Ks) (id:Int):Bool:=(AG K id).isSome
def WZ {K:Ks} (h:Al K) (o:∀ i,1<=i->i<=32->O i=oc K i) (id:Int):hs 32 O id=JK K id:=by
 unfold hs JK
 by_cases q:1<=id/\id<=32
 ·have t:((id.toNat:Nat):Int)=id:=by omega
  rw [o id.toNat (by omega) (by omega)]
  unfold oc
  rw [t]
  simp [q]
 ·cases e:AG K id with
  | none=>simp [q]
  | some c=>
   have:=h.rg c id (Bn e)
   exact absurd this q
def pc (n:Nat) (c:Int):Option Nat:=if c=-1 then some n else if AW n c=true then some c.toNat else none
def Wa {c:Int} (h:pc n c=some k):k<=n:=by
 unfold pc at h
 split at h
 ·cases h;omega
 ·split at h
  ·rename_i e
   have:=By e
   cases h
   omega
  ·cases h
def kT (n:Nat) (K:Ks) (c:Int):Int:=if (pc n c).isSome=true then tN (nx K) else 0
def kU (n:Nat) (K:Ks) (c:Int):Int:=if (pc n c).isSome=true then tE (nx K) else 3
def ZJ (n:Nat) (K:Ks) (c:Int):Ks:=match pc n c with
 | some k=>NF K k (nx K)
 | none=>K
def Rv (n:Nat) (K:Ks) (c:Int):Nat:=if ks K c.toNat=[] then n else c.toNat
def LQ (n:Nat) (K:Ks) (c:Int):Int:=if AW n c=true then (ks K (Rv n K c)).headD 0 else 0
def kV (n:Nat) (K:Ks) (c:Int):Int:=if AW n c=true then fE (ks K (Rv n K c)) else 3
def Rx (n:Nat) (K:Ks) (c:Int):Ks:=if AW n c=true then K.set (Rv n K c) (ks K (Rv n K c)).tail else K
def wL (n:Nat) (K:Ks) (c:Int):Int:=if AW n c=true then (ks K c.toNat).headD 0 else 0
def Ry (n:Nat) (K:Ks) (c:Int):Int:=if AW n c=true then fE (ks K c.toNat) else 3
def Rz (n:Nat) (K:Ks) (c:Int):Ks:=if AW n c=true then mv K c.toNat n else K
def nm (n k:Nat):Int:=if k=n then -1 else (k:Int)
def wq (n:Nat) (K:Ks) (id:Int):Option Int:=(AG K id).map (nm n)
def DM (n:Nat) (K:Ks) (id:Int):Int:=(wq n K id).getD 0
def E4 (n:Nat) (K:Ks) (c:Int):List Int:=match pc n c with
 | some k=>ks K k
 | none=>[]
def Kt {K:Ks}:(wq n K id).isSome=(AG K id).isSome:=by
 unfold wq
 cases AG K id <;> rfl
def Wb {c:Int} (h:pc n c=some k):nm n k=c:=by
 unfold pc at h
 unfold nm
 split at h
 ·rename_i e
  cases h
  rw [AHi rfl,e]
 ·split at h
  ·rename_i _ e
   have:=By e
   cases h
   rw [AHh (by omega)]
   omega
  ·cases h
end Go.Proofs.YtdlhlfpigcgapaaGreatDoor.Cm
namespace Go.Proofs.YtdlhlfpigcgapaaGreatDoor.Wrk
open Go.Proofs.Tryz
open Fif
abbrev T:=@Slt.T
def Ec:=@Slt.Q5
def Gv:=@Slt.Ll
def Pq:=@Slt.Ij
abbrev MQ:=@Tim.MQ
def Jj:=@Tim.Jj
def DH:=@Tim.DH
def GM:=@Tim.GM
def Jk:=@Tim.Jk
open Go.ChangeShapes Go.WideShapes Go.ChangeAt Go.RowKit
open Fm Sl Cm
variable {w w' w1 w2 w3 wr:World} {O O':Nat->Bool} {W W':List Nat} {f:Int->Option Int} {K K':Ks} {a b c i k m s t tb:Nat} {L:List Int} {id:Int}
def QB (w:World) (a:Nat) (L:List Int):Prop:=∃ f r,Q w (a+1) a 32 f r L
def QB.lt {w:World} {a:Nat} {L:List Int} (h:QB w a L):a+1<w.heap.size:=by
 obtain ⟨f,r,q⟩:=h
 exact q.sb.lt
def QB.AA {B:Nat} {S:List Nat} {w w':World} {a:Nat} {L:List Int} (h:QB w a L) (k:Fr B S w w') (hb:a+1<B) (h1:a∉S) (h2:a+1∉S):QB w' a L:=by
 obtain ⟨f,r,q⟩:=h
 exact ⟨f,r,q.AA k ⟨hb,by omega⟩ ⟨h2,h1⟩⟩
def Gw (n:Int) (h:QB w a L):
 Calls prog 282 #[.pointer (some ⟨a+1,0,none⟩),.int .i64 n] w λe w'=>e=.returned (.int .i64 (pE 32 L n))/\QB w' a (pL 32 L n)/\Fr w.heap.size [a+1,a] w w':=by
 obtain ⟨f,r,q⟩:=h
 refine (Lo n w q).mono ?_
 rintro e w' ⟨rfl,⟨r',q'⟩,k⟩
 exact ⟨rfl,⟨_,_,q'⟩,k⟩
def I1 (h:QB w a L):
 Calls prog 189 #[.pointer (some ⟨a+1,0,none⟩)] w λe w'=>e=.returned (.tuple #[.int .i64 (L.headD 0),.int .i64 (fE L)])/\QB w' a L.tail/\Fr w.heap.size [a+1,a] w w':=by
 obtain ⟨f,r,q⟩:=h
 refine (UY w q).mono ?_
 rintro e w' ⟨rfl,⟨r',q'⟩,k⟩
 exact ⟨rfl,⟨_,_,q'⟩,k⟩
def L9 (h:QB w a L):
 Calls prog 103 #[.pointer (some ⟨a+1,0,none⟩)] w λe w'=>e=.returned (.int .i64 (L.length:Int))/\w'=w:=by
 obtain ⟨f,r,q⟩:=h
 exact DA w q
def R4 (w:World):
 Calls prog 67 #[.int .i64 32] w λe w'=>e=.returned (.tuple #[.pointer (some ⟨w.heap.size+1,0,none⟩),.int .i64 0])/\QB w' w.heap.size []/\Fr w.heap.size [] w w'/\w'.heap.size=w.heap.size+2:=by
 refine (RH 32 w (by decide) (by decide)).mono ?_
 rintro e w' ⟨rfl,q,f,z⟩
 exact ⟨rfl,⟨_,_,q⟩,f,z⟩
def QS (w:World) (a:Nat->Nat) (p:Nat) (K:Ks):Prop:=∀ c,c<p->QB w (a c) (ks K c)
def QS.AA {B:Nat} {S:List Nat} {w w':World} {a:Nat->Nat} {p:Nat} {K:Ks} (h:QS w a p K) (k:Fr B S w w') (hB:w.heap.size<=B) (hS:∀ c,c<p->a c∉S/\a c+1∉S):QS w' a p K:=λc hc=>
 (h c hc).AA k (AD7 (h c hc).lt hB) (hS c hc).1 (hS c hc).2
def QS.put {a:Nat->Nat} {p:Nat} (h:QS w a p K) (hc:c<K.length) (sep:∀ d,d<p->d≠c->a d+1<a c\/a c+1<a d) {X:List Int} (q:QB w' (a c) X) (f:Fr w.heap.size [a c+1,a c] w w'):QS w' a p (K.set c X):=λd hd=>by
 rw [BE _ _ _ _ hc]
 by_cases e:d=c
 ·subst e
  rw [AHi rfl]
  exact q
 ·rw [AHh e]
  have s:=sep d hd e
  exact (h d hd).AA f (h d hd).lt (by simp;omega) (by simp;omega)
def Oj (a:Nat->Nat) (n:Nat):List Value:=(List.range n).map λc=>.pointer (some ⟨a c+1,0,none⟩)
def R5 (a:Nat->Nat) (n c:Nat) (h:c<n):(Oj a n)[c]?=some (.pointer (some ⟨a c+1,0,none⟩)):=by
 unfold Oj
 rw [ADn,AET h]
 rfl
def Cr (a:Nat->Nat) (n k:Nat):List Value:=(List.range n).map λc=>if c<k then .pointer (some ⟨a c+1,0,none⟩) else .pointer none
def I3 (a:Nat->Nat) (n k c:Nat) (h:c<n):(Cr a n k)[c]?=some (if c<k then .pointer (some ⟨a c+1,0,none⟩) else .pointer none):=by
 unfold Cr
 rw [ADn,AET h]
 rfl
def R6 (a:Nat->Nat) (n k:Nat):(Cr a n k).set k (.pointer (some ⟨a k+1,0,none⟩))=Cr a n (k+1):=by
 apply AEH
 intro c
 by_cases hc:c<n
 ·rw [I3 _ _ _ _ hc,AD6]
  by_cases e:k=c
  ·subst e
   rw [AHi rfl,AHi (by simpa [Cr] using hc),AHi (by omega)]
  ·rw [AHh e,I3 _ _ _ _ hc]
   by_cases q:c<k
   ·rw [AHi q,AHi (by omega)]
   ·rw [AHh q,AHh (by omega)]
 ·rw [ADg (by simp [Cr];omega),ADg (by simp [Cr];omega)]
def R7 (a:Nat->Nat) (n:Nat):Cr a n n=Oj a n:=by
 unfold Cr Oj
 apply AFu
 intro c hc
 rw [AHi (ADk.1 hc)]
def Pr (a:Nat->Nat) (n:Nat):madeCells #[Value.pointer none] n=(Cr a n 0).toArray:=by
 apply AFU
 ·simp [size_madeCells,Cr]
 ·intro i h1 h2
  simp [madeCells,Cr,AF5]
def Tryz.Mi:(prog.info? 165).map (λi=>(i.zero,i.size,i.bytes))=some (some (.pointer none),1,8):=by kernel_rfl
def Fv (e:∀ j,AG K' j=if j=id then some c else AG K j) (h1:1<=id) (j:Nat):oc K' j=if j=id.toNat then true else oc K j:=by
 unfold oc
 rw [e]
 by_cases q:j=id.toNat
 ·rw [AHi q,AHi (by omega)]
  rfl
 ·rw [AHh q,AHh (by omega)]
def oL (e:∀ j,AG K' j=if j=id then none else AG K j) (h1:1<=id) (j:Nat):oc K' j=if j=id.toNat then false else oc K j:=by
 unfold oc
 rw [e]
 by_cases q:j=id.toNat
 ·rw [AHi q,AHi (by omega)]
  rfl
 ·rw [AHh q,AHh (by omega)]
def U' (o:∀ i,1<=i->i<=32->O i=oc K i):ff 32 O=nx K:=by
 cases e:nx K with
 | some i=>
  obtain ⟨h1,h2⟩:=Cp e
  refine UU 32 O i h1 (by rw [o _ (by omega) (by omega)];exact I0.2 h2) λj hj=>?_
  rw [o _ (by omega) (by omega)]
  unfold nx ff at e
  rw [AFK] at e
  simpa using e.2.2 j hj
 | none=>
  refine OO 32 O λj hj=>?_
  rw [o _ (by omega) (by omega)]
  unfold nx ff at e
  rw [ADw] at e
  simpa using e j (ADk.2 hj)
def Me (w:World):(zeroValue 3).run prog w=.ok (.int .i64 0) w:=by kernel_rfl
def Qf (h:MQ 3 w b m f) (hi:(Lit.int .i64 id).wf=true):(Instr.lookup 143 (.map (some b)) (.int .i64 id) true).run prog w=.ok (.tuple #[.int .i64 ((f id).getD 0),.bool (f id).isSome]) w:=
 DH (tm:=143) underlying3 underlying143 Me h hi
def Be (c:Int) (h0:-1<=c) (h:c<=64):(Lit.int .i64 c).wf=true:=by
 simp [Lit.wf,IntKind.min,IntKind.max,IntKind.signed,IntKind.bits]
 omega
def ga (s n c:Nat):Nat:=if c=n then s+2 else s+7+2*c
def Ed {n:Nat} (h:c<n):ga s n c=s+7+2*c:=AHh (by omega)
def IA (s n:Nat):ga s n n=s+2:=AHi rfl
def gz (s n:Nat):List Nat:=List.range' s (7+2*n)
def NI (s n k:Nat):k∈gz s n↔s<=k/\k<s+(7+2*n):=by unfold gz;rw [AEt]
def Qg {n:Nat} (h:c<=n):s+2<=ga s n c/\ga s n c+1<s+(7+2*n)/\(ga s n c+1<s+4\/s+7<=ga s n c):=by
 by_cases e:c=n
 ·subst e
  rw [IA]
  omega
 ·rw [Ed (by omega)]
  omega
def wM {n d:Nat} (hc:c<=n) (hd:d<=n) (h:d≠c):ga s n d+1<ga s n c\/ga s n c+1<ga s n d:=by
 by_cases e:c=n
 ·subst e
  rw [IA,Ed (by omega)]
  omega
 ·rw [Ed (c:=c) (by omega)]
  by_cases f:d=n
  ·subst f
   rw [IA]
   omega
  ·rw [Ed (by omega)]
   omega
structure GB (w:World) (s n:Nat) (K:Ks) (W:List Nat) (O:Nat->Bool) (m:Nat) (f:Int->Option Int):Prop where
 st:AB w (s+6) [.pointer (some ⟨s+1,0,none⟩),.slice (some ⟨s+4,0,none⟩) n n,.pointer (some ⟨s+3,0,none⟩),.map (some (s+5))] 170
 tb:AB w (s+4) (Oj (ga s n) n) 165
 sl:T w (s+1) s 32 W O
 mp:MQ 3 w (s+5) m f
 qs:QS w (ga s n) (n+1) K
 kn:K.length=n+1
 n1:1<=n
 n2:n<=64
section
variable {w w':World} {s n:Nat} {K:Ks} {W:List Nat} {O:Nat->Bool} {m:Nat} {f:Int->Option Int}
def GB.hi (h:GB w s n K W O m f):s+(7+2*n)<=w.heap.size:=by
 have:=(h.qs (n-1) (by omega)).lt
 have:=h.n1
 rw [Ed (by omega)] at *
 omega
def GB.c0 (h:GB w s n K W O m f):w.cell? ⟨s+6,0,none⟩=some (.pointer (some ⟨s+1,0,none⟩)):=h.st.cell 0
def GB.c1 (h:GB w s n K W O m f):w.cell? ⟨s+6,1,none⟩=some (.slice (some ⟨s+4,0,none⟩) n n):=h.st.cell 1
def GB.c2 (h:GB w s n K W O m f):w.cell? ⟨s+6,2,none⟩=some (.pointer (some ⟨ga s n n+1,0,none⟩)):=by rw [IA];exact h.st.cell 2
def GB.c3 (h:GB w s n K W O m f):w.cell? ⟨s+6,3,none⟩=some (.map (some (s+5))):=h.st.cell 3
def GB.cq (h:GB w s n K W O m f) (hc:c<n):w.cell? ⟨s+4,c,none⟩=some (.pointer (some ⟨ga s n c+1,0,none⟩)):=by
 rw [h.tb.cell c,R5 _ _ _ hc]
def GB.AA {B:Nat} {S:List Nat} (h:GB w s n K W O m f) (k:Fr B S w w') (hB:w.heap.size<=B) (hS:∀ k,s<=k->k<s+(7+2*n)->k∉S):GB w' s n K W O m f:=by
 have hi:=h.hi
 refine ⟨h.st.AA k (by omega) (hS _ (by omega) (by omega)),h.tb.AA k (by omega) (hS _ (by omega) (by omega)),h.sl.AA k ⟨by omega,by omega⟩ ⟨hS _ (by omega) (by omega),hS _ (by omega) (by omega)⟩,h.mp.AA k (by omega) (hS _ (by omega) (by omega)),h.qs.AA k hB λc hc=>?_,h.kn,h.n1,h.n2⟩
 obtain ⟨h1,h2,_⟩:=Qg (s:=s) (n:=n) (c:=c) (by omega)
 exact ⟨hS _ (by omega) (by omega),hS _ (by omega) (by omega)⟩
def GB.put (h:GB w s n K W O m f) {c:Nat} (hc:c<=n) {X:List Int} (q:QB w' (ga s n c) X) (k:Fr w.heap.size [ga s n c+1,ga s n c] w w'):GB w' s n (K.set c X) W O m f/\Fr w.heap.size (gz s n) w w':=by
 have hi:=h.hi
 obtain ⟨h1,h2,h3⟩:=Qg (s:=s) (n:=n) (c:=c) hc
 have nz:∀ k,(k<s+2\/(s+4<=k/\k<s+7))->k∉[ga s n c+1,ga s n c]:=λk hk e=>by simp at e;omega
 refine ⟨⟨h.st.AA k (by omega) (nz _ (by omega)),h.tb.AA k (by omega) (nz _ (by omega)),h.sl.AA k ⟨by omega,by omega⟩ ⟨nz _ (by omega),nz _ (by omega)⟩,h.mp.AA k (by omega) (nz _ (by omega)),h.qs.put (by rw [h.kn];omega) (λd hd e=>wM hc (by omega) e) q k,by simp [h.kn],h.n1,h.n2⟩,k.mono (ADW _) λk _ hk e=>hk ((NI s _ k).2 (by simp at e;omega))⟩
def GB.slot (h:GB w s n K W O m f) (q:T w' (s+1) s 32 W' O') (k:Fr w.heap.size [s+1,s] w w'):GB w' s n K W' O' m f/\Fr w.heap.size (gz s n) w w':=by
 have hi:=h.hi
 have nz:∀ k,s+2<=k->k∉[s+1,s]:=λk hk e=>by simp at e;omega
 refine ⟨⟨h.st.AA k (by omega) (nz _ (by omega)),h.tb.AA k (by omega) (nz _ (by omega)),q,h.mp.AA k (by omega) (nz _ (by omega)),h.qs.AA k (ADW _) λc hc=>?_,h.kn,h.n1,h.n2⟩,k.mono (ADW _) λk _ hk e=>hk ((NI s _ k).2 (by simp at e;omega))⟩
 obtain ⟨h1,_,_⟩:=Qg (s:=s) (n:=n) (c:=c) (by omega)
 exact ⟨nz _ (by omega),nz _ (by omega)⟩
def GB.map (h:GB w s n K W O m f) {m':Nat} {f':Int->Option Int} (q:MQ 3 w' (s+5) m' f') (k:Fr w.heap.size [s+5] w w'):GB w' s n K W O m' f'/\Fr w.heap.size (gz s n) w w':=by
 have hi:=h.hi
 refine ⟨⟨h.st.AA k (by omega) (by simp),h.tb.AA k (by omega) (by simp),h.sl.AA k ⟨by omega,by omega⟩ ⟨by simp,by simp⟩,q,h.qs.AA k (ADW _) λc hc=>?_,h.kn,h.n1,h.n2⟩,k.mono (ADW _) λk _ hk e=>hk ((NI s _ k).2 (by simp at e;omega))⟩
 obtain ⟨_,_,h3⟩:=Qg (s:=s) (n:=n) (c:=c) (by omega)
 exact ⟨by simp;omega,by simp;omega⟩
end
def GX (w:World) (s n:Nat) (K:Ks):Prop:=∃ W O,GB w s n K W O (Ay (oc K)) (wq n K)/\Al K/\∀ i,1<=i->i<=32->O i=oc K i
def GX.AA {B:Nat} {S:List Nat} {w w':World} {s n:Nat} {K:Ks} (h:GX w s n K) (f:Fr B S w w') (hB:w.heap.size<=B) (hS:∀ k,s<=k->k<s+(7+2*n)->k∉S):GX w' s n K:=by
 obtain ⟨W,O,b,a,o⟩:=h
 exact ⟨W,O,b.AA f hB hS,a,o⟩
def GX.hi {w:World} {s n:Nat} {K:Ks} (h:GX w s n K):s+(7+2*n)<=w.heap.size:=by
 obtain ⟨W,O,b,a,o⟩:=h
 exact b.hi
def Ol {n:Nat} (c:Nat) (hc:(c:Int)<n) (c1:w.cell? ⟨t,1,none⟩=some (.slice (some ⟨tb,0,none⟩) n n)) (cw:w.cell? ⟨tb,c,none⟩=some (.pointer (some ⟨a,0,none⟩))):
 Calls prog 173 #[.pointer (some ⟨t,0,none⟩),.int .i64 (c:Int)] w λe w'=>e=.returned (.tuple #[.pointer (some ⟨a,0,none⟩),.int .i64 0])/\w'=w:=by
 go_enter func173,ntmps173
 go_wp2
 go_ret2
 exact ⟨rfl,rfl⟩
def R8 {n:Nat} (c:Int) (hc:AW n c=false) (c1:w.cell? ⟨t,1,none⟩=some (.slice (some ⟨tb,0,none⟩) n n)):
 Calls prog 173 #[.pointer (some ⟨t,0,none⟩),.int .i64 c] w λe w'=>e=.returned (.tuple #[.pointer none,.int .i64 3])/\w'=w:=by
 rcases Pp hc with q | ⟨q,q2⟩
 ·clear hc
  go_enter func173,ntmps173
  go_wp2
  go_ret2
  exact ⟨rfl,rfl⟩
 ·clear hc
  go_enter func173,ntmps173
  go_wp2
  go_ret2
  exact ⟨rfl,rfl⟩
def Ps {n:Nat} (c:Int) (h:GB w s n K W O m f) (hp:pc n c=some k):
 Calls prog 102 #[.pointer (some ⟨s+6,0,none⟩),.int .i64 c] w λe w'=>e=.returned (.tuple #[.pointer (some ⟨ga s n k+1,0,none⟩),.int .i64 0])/\w'=w:=by
 unfold pc at hp
 by_cases e:c=-1
 ·rw [AHi e] at hp
  obtain rfl:n=k:=by injection hp
  have c2:=h.c2
  subst e
  generalize ga s n n+1=a at *
  clear h hp
  go_enter func102,ntmps102
  go_wp2
  go_ret2
  exact ⟨rfl,rfl⟩
 ·rw [AHh e] at hp
  cases i:AW n c with
  | false=>
   rw [i,AHh (by decide)] at hp
   cases hp
  | true=>
   rw [i,AHi rfl] at hp
   obtain ⟨q,rfl,hq,hq2⟩:=Dp i
   obtain rfl:q=k:=by injection hp
   have C:Hid (∀ _:Unit,_):=λ_=>Ol q hq2 h.c1 (h.cq hq)
   have e2:((q:Int)==-1)=false:=by simp
   generalize ga s n q+1=a at *
   clear h hp i e
   go_enter func102,ntmps102
   go_wp2_with fail
   refine (C.out ()).mono ?_
   rintro e w' ⟨rfl,rfl⟩
   go_wp2
   go_ret2
   exact ⟨rfl,rfl⟩
def R9 {n:Nat} (c:Int) (h:GB w s n K W O m f) (hp:pc n c=none):
 Calls prog 102 #[.pointer (some ⟨s+6,0,none⟩),.int .i64 c] w λe w'=>e=.returned (.tuple #[.pointer none,.int .i64 3])/\w'=w:=by
 unfold pc at hp
 by_cases e:c=-1
 ·rw [AHi e] at hp
  cases hp
 ·rw [AHh e] at hp
  cases i:AW n c with
  | true=>
   rw [i,AHi rfl] at hp
   cases hp
  | false=>
   have C:Hid (∀ _:Unit,_):=λ_=>R8 c i h.c1
   have e2:(c==-1)=false:=by simpa using e
   clear h hp i e
   go_enter func102,ntmps102
   go_wp2_with fail
   refine (C.out ()).mono ?_
   rintro e w' ⟨rfl,rfl⟩
   go_wp2
   go_ret2
   exact ⟨rfl,rfl⟩
def Wc {n:Nat} (id:Int) (hi:(Lit.int .i64 id).wf=true) (h:GX w s n K):
 Calls prog 331 #[.pointer (some ⟨s+6,0,none⟩),.int .i64 id] w λe w'=>e=.returned (.tuple #[.int .i64 (DM n K id),.bool (JK K id)])/\w'=w:=by
 obtain ⟨W,O,b,a,o⟩:=h
 have c3:=b.c3
 have l:=Qf b.mp hi
 rw [Kt] at l
 unfold DM JK
 generalize (wq n K id).getD 0=x at *
 generalize (AG K id).isSome=y at *
 clear b a o hi
 go_enter func331,ntmps331
 go_wp2
 go_ret2
 exact ⟨rfl,rfl⟩
def eZ {n:Nat} (id:Int) (hi:(Lit.int .i64 id).wf=true) (h:GX w s n K):
 Calls prog 283 #[.pointer (some ⟨s+6,0,none⟩),.int .i64 id] w λe w'=>e=.returned (.bool (JK K id))/\w'=w:=by
 have C:Hid (∀ _:Unit,_):=λ_=>Wc id hi h
 generalize DM n K id=x at *
 generalize JK K id=y at *
 clear h hi
 go_enter func283,ntmps283
 go_wp2_with fail
 refine (C.out ()).mono ?_
 rintro e w' ⟨rfl,rfl⟩
 go_wp2
 go_ret
 exact ⟨rfl,rfl⟩
def ZK {n:Nat} (c:Int) (h:GX w s n K):
 Calls prog 54 #[.pointer (some ⟨s+6,0,none⟩),.int .i64 c] w λe w'=>e=.returned (.int .i64 ((E4 n K c).length:Int))/\w'=w:=by
 obtain ⟨W,O,b,a,o⟩:=h
 unfold E4
 cases e:pc n c with
 | none=>
  have C:Hid (∀ _:Unit,_):=λ_=>R9 c b e
  have D:Hid (∀ w,_):=λw=>UZ w
  show Calls _ _ _ _ λe w'=>e=.returned (.int .i64 0)/\w'=w
  clear b a o e
  go_enter func54,ntmps54
  go_wp2_with fail
  refine (C.out ()).mono ?_
  rintro e w' ⟨rfl,rfl⟩
  go_wp2_with fail
  refine (D.out _).mono ?_
  rintro e w' ⟨rfl,rfl⟩
  go_wp2
  go_ret
  exact ⟨rfl,rfl⟩
 | some k=>
  have C:Hid (∀ _:Unit,_):=λ_=>Ps c b e
  have D:Hid (∀ _:Unit,_):=λ_=>L9 (b.qs k (by have:=Wa e;omega))
  show Calls _ _ _ _ λe w'=>e=.returned (.int .i64 ((ks K k).length:Int))/\w'=w
  generalize (ks K k).length=l at *
  clear b a o e
  go_enter func54,ntmps54
  go_wp2_with fail
  refine (C.out ()).mono ?_
  rintro e w' ⟨rfl,rfl⟩
  go_wp2_with fail
  refine (D.out ()).mono ?_
  rintro e w' ⟨rfl,rfl⟩
  go_wp2
  go_ret
  exact ⟨rfl,rfl⟩
def We {n:Nat} (id:Int) (b:GB w s n K' W O (Ay (oc K)) (wq n K)) (a:Al K) (a':Al K') (o:∀ i,1<=i->i<=32->O i=oc K i) (hc:AG K id=some c) (e':∀ j,AG K' j=if j=id then none else AG K j):
 Calls prog 195 #[.pointer (some ⟨s+6,0,none⟩),.int .i64 id] w λe w'=>e=.returned (.int .i64 0)/\GX w' s n K'/\Fr w.heap.size (gz s n) w w':=by
 have hr:=a.rg c id (Bn hc)
 have hi:=Be id (by omega) (by omega)
 obtain ⟨w1,r1,M1,f1⟩:=Jk (tm:=143) underlying143 b.mp hi (by rw [Kt,hc];rfl) 0
 obtain ⟨b1,v1⟩:=b.map M1 f1
 have c3:=b.c3
 have d0:=b1.c0
 have t1:((id.toNat:Nat):Int)=id:=by omega
 have h1:oc K id.toNat=true:=by unfold oc;rw [t1,hc];rfl
 have h2:oc K' id.toNat=false:=by unfold oc;rw [t1,e',AHi rfl];rfl
 have h3:∀ j,j≠id.toNat->oc K j=oc K' j:=λj hj=>by unfold oc;rw [e',AHh (by omega)]
 have hs1:hs 32 O id=true:=by rw [WZ a o];unfold JK;rw [hc];rfl
 have ST:Hid (Calls prog 190 #[.pointer (some ⟨s+1,0,none⟩),.int .i64 id] w1 λe w'=>e=.returned (.int .i64 0)/\GX w' s n K'/\Fr w.heap.size (gz s n) w w'):=by
  refine (Gv id w1 b1.sl).mono ?_
  rintro e w3 ⟨rfl,⟨W',q3⟩,f3⟩
  obtain ⟨b3,v3⟩:=b1.slot q3 f3
  refine ⟨by unfold gE;rw [AHi hs1],⟨W',gO 32 O id,?_,a',λi i1 i2=>?_⟩,v1.trans (v3.less v1.size)⟩
  ·have e3:Ay (oc K)=Ay (oc K')+1:=Jm (by omega) (by omega) h3 h1 h2
   have e4:(λj=>if j=id then none else wq n K j)=wq n K':=funext λj=>by
    unfold wq
    rw [e']
    split <;> rfl
   rw [e3,AFP,e4] at b3
   exact b3
  ·unfold gO
   rw [AHi hs1]
   unfold st
   by_cases q:i=id.toNat
   ·rw [AHi q,q,h2]
   ·rw [AHh q,o i i1 i2,h3 i q]
 clear M1 f1 b1 v1 b a a' o hc hr hi h1 h2 h3 hs1 t1 e'
 go_enter func195,ntmps195
 go_wp2_with fail
 refine ST.out.mono ?_
 rintro e w3 ⟨rfl,FF⟩
 have FH:Hid _:=FF
 clear FF
 go_wp2
 go_ret
 exact ⟨rfl,FH.out⟩
def wN (h:MQ 3 w b m f) (hm:m<=100000) {c:Int} (hi:(Lit.int .i64 id).wf=true) (hc:(Lit.int .i64 c).wf=true):
 ∃ w',(Instr.mapUpdate 143 (.map (some b)) (.int .i64 id) (.int .i64 c)).run prog w=.ok () w'/\MQ 3 w' b (if (f id).isSome=true then m else m+1) (λj=>if j=id then some c else f j)/\Fr w.heap.size [b] w w':=
 GM (tm:=143) underlying3 underlying143 h hm hi hc
def ZM {n:Nat} {c:Int} (a:Al K) (o:∀ i,1<=i->i<=32->O i=oc K i) (hk:pc n c=some k) (hx:nx K=some i)
 (b2:GB w2 s n K W' (st O (i+1) true) (Ay (oc K)+1) (λj=>if j=((i+1:Nat):Int) then some c else wq n K j)) (q:QB w3 (ga s n k) (ks K k++[((i+1:Nat):Int)])) (f3:Fr w2.heap.size [ga s n k+1,ga s n k] w2 w3) (f1:Fr w1.heap.size (gz s n) w1 w2):
 GX w3 s n (K.set k (ks K k++[((i+1:Nat):Int)]))/\Fr w1.heap.size (gz s n) w1 w3:=by
 obtain ⟨h1,h2⟩:=Cp hx
 have kl:=Wa hk
 obtain ⟨a2,e2⟩:=Fp a (c:=k) (by have:=b2.kn;omega) h2 (by omega) (by omega)
 obtain ⟨b3,g3⟩:=b2.put kl q f3
 have t1:(((i+1:Nat):Int)).toNat=i+1:=by omega
 have e3:Ay (oc (K.set k (ks K k++[((i+1:Nat):Int)])))=Ay (oc K)+1:=by
  refine Jm (k:=i+1) (by omega) (by omega) (λj hj=>?_) ?_ (I0.2 h2)
  ·rw [Fv e2 (by omega),AHh (by omega)]
  ·rw [Fv e2 (by omega),AHi (by omega)]
 have e4:(λj=>if j=((i+1:Nat):Int) then some c else wq n K j)=wq n (K.set k (ks K k++[((i+1:Nat):Int)])):=funext λj=>by
  unfold wq
  rw [e2]
  split
  ·rw [Option.map_some,Wb hk]
  ·rfl
 rw [<- e3,e4] at b3
 refine ⟨⟨W',_,b3,a2,λj j1 j2=>?_⟩,f1.trans (g3.less f1.size)⟩
 rw [Fv e2 (by omega)]
 unfold st
 by_cases z:j=i+1
 ·rw [AHi z,AHi (by omega)]
 ·rw [AHh z,AHh (by omega),o j j1 j2]
def ZN {n:Nat} (c:Int) (h:GX w s n K) (ht:A9 w):
 Calls prog 229 #[.pointer (some ⟨s+6,0,none⟩),.int .i64 c] w λe w'=>e=.returned (.tuple #[.int .i64 (kT n K c),.int .i64 (kU n K c)])/\GX w' s n (ZJ n K c)/\Fr w.heap.size (gz s n) w w':=by
 have HX:Hid (GX w s n K):=h
 obtain ⟨W,O,b,a,o⟩:=h
 unfold kT kU ZJ
 cases e:pc n c with
 | none=>
  have C:Hid (∀ _:Unit,_):=λ_=>R9 c b e
  rw [AHh (by decide),AHh (by decide)]
  show Calls _ _ _ _ λe w'=>e=.returned (.tuple #[.int .i64 0,.int .i64 3])/\GX w' s n K/\Fr w.heap.size (gz s n) w w'
  clear b a o e
  go_enter func229,ntmps229
  go_wp2_with fail
  refine (C.out ()).mono ?_
  rintro e w' ⟨rfl,rfl⟩
  go_wp2
  go_ret2
  exact ⟨rfl,HX.out,Fr.refl _ _ _⟩
 | some k=>
  have kl:=Wa e
  have C:Hid (∀ _:Unit,_):=λ_=>Ps c b e
  rw [AHi (show (some k).isSome=true from rfl),AHi (show (some k).isSome=true from rfl)]
  have c0:=b.c0
  have D:Hid (∀ _:Unit,_):=λ_=>Pq w b.sl ht
  rw [U' o] at D
  cases hx:nx K with
  | none=>
   rw [hx] at D
   have FE:Hid (∀ w1:World,(∃ W',T w1 (s+1) s 32 W' (tO O none))->Fr w.heap.size [s+1,s] w w1->GX w1 s n K/\Fr w.heap.size (gz s n) w w1):=λw1 ⟨W',q⟩ f=>by
    obtain ⟨b1,f1⟩:=b.slot q f
    exact ⟨⟨W',_,b1,a,o⟩,f1⟩
   rw [show tN none=0 from rfl,show tE none=5 from rfl] at D ⊢
   show Calls _ _ _ _ λe w'=>e=.returned (.tuple #[.int .i64 0,.int .i64 5])/\GX w' s n K/\Fr w.heap.size (gz s n) w w'
   generalize ga s n k+1=gk at *
   clear b a o e HX
   go_enter func229,ntmps229
   go_wp2_with fail
   refine (C.out ()).mono ?_
   rintro e w' ⟨rfl,rfl⟩
   go_wp2_with fail
   refine (D.out ()).mono ?_
   rintro e w1 ⟨rfl,q,f⟩
   have F1:Hid _:=FE.out w1 q f
   clear q f FE
   go_wp2
   go_ret2
   exact ⟨rfl,F1.out⟩
  | some i=>
   rw [hx] at D
   obtain ⟨h1,h2⟩:=Cp hx
   have rm:=a.room h2 (by omega) (by omega) (c:=k) (by have:=b.kn;omega)
   obtain ⟨p1,p2⟩:=Kr (At.1 h2 k) rm
   have wc:(Lit.int .i64 c).wf=true:=Be c (by rw [<- Wb e];unfold nm;split <;> omega) (by rw [<- Wb e];have:=b.n2;unfold nm;split <;> omega)
   have FE:Hid (∀ w1:World,(∃ W',T w1 (s+1) s 32 W' (tO O (some i)))->Fr w.heap.size [s+1,s] w w1->w1.cell? ⟨s+6,3,none⟩=some (.map (some (s+5)))/\∃ w2,(Instr.mapUpdate 143 (.map (some (s+5))) (.int .i64 ((i+1:Nat):Int)) (.int .i64 c)).run prog w1=.ok () w2/\Hid (Calls prog 282 #[.pointer (some ⟨ga s n k+1,0,none⟩),.int .i64 ((i+1:Nat):Int)] w2 λe w'=>e=.returned (.int .i64 0)/\GX w' s n (K.set k (ks K k++[((i+1:Nat):Int)]))/\Fr w.heap.size (gz s n) w w')):=λw1 ⟨W',q⟩ f=>by
    obtain ⟨b1,f1⟩:=b.slot q f
    obtain ⟨w2,r2,M2,f2⟩:=wN b1.mp (by have:=Ey (oc K);omega) (id:=((i+1:Nat):Int)) (Be _ (by omega) (by omega)) wc
    rw [Kt,h2,AHh (by decide)] at M2
    obtain ⟨b2,g2⟩:=b1.map M2 f2
    refine ⟨b1.c3,w2,r2,?_⟩
    refine (Gw ((i+1:Nat):Int) (b2.qs k (by omega))).mono ?_
    rw [p1,p2]
    rintro e w3 ⟨rfl,q3,f3⟩
    exact ⟨rfl,ZM a o (by assumption) hx b2 q3 f3 (f1.trans (g2.less f1.size))⟩
   rw [show tN (some i)=((i+1:Nat):Int) from rfl,show tE (some i)=0 from rfl] at D ⊢
   show Calls _ _ _ _ λe w'=>e=.returned (.tuple #[.int .i64 ((i+1:Nat):Int),.int .i64 0])/\GX w' s n (K.set k (ks K k++[((i+1:Nat):Int)]))/\Fr w.heap.size (gz s n) w w'
   clear b a o e HX hx h1 h2 rm p1 p2 wc
   generalize ((i+1:Nat):Int)=x at *
   generalize ga s n k+1=gk at *
   go_enter func229,ntmps229
   go_wp2_with fail
   refine (C.out ()).mono ?_
   rintro e w' ⟨rfl,rfl⟩
   go_wp2_with fail
   refine (D.out ()).mono ?_
   rintro e w1 ⟨rfl,q,f⟩
   obtain ⟨d3,w2,r2,F1⟩:=FE.out w1 q f
   clear q f FE
   go_wp2_with fail
   refine F1.out.mono ?_
   rintro e w3 ⟨rfl,q2⟩
   have F2:Hid _:=q2
   clear q2
   go_wp2
   go_ret2
   exact ⟨rfl,F2.out⟩
def Jo {n:Nat} (c:Int) (h:GX w s n K):
 Calls prog 132 #[.pointer (some ⟨s+6,0,none⟩),.int .i64 c] w λe w'=>e=.returned (.tuple #[.int .i64 (LQ n K c),.int .i64 (kV n K c)])/\GX w' s n (Rx n K c)/\Fr w.heap.size (gz s n) w w':=by
 have HX:Hid (GX w s n K):=h
 obtain ⟨W,O,b,a,o⟩:=h
 unfold LQ kV Rx
 cases e:AW n c with
 | false=>
  have C:Hid (∀ _:Unit,_):=λ_=>R8 c e b.c1
  rw [AHh (by decide),AHh (by decide),AHh (by decide)]
  clear b a o e
  go_enter func132,ntmps132
  go_wp2_with fail
  refine (C.out ()).mono ?_
  rintro e w' ⟨rfl,rfl⟩
  go_wp2
  go_ret2
  exact ⟨rfl,HX.out,Fr.refl _ _ _⟩
 | true=>
  obtain ⟨k,rfl,hk,hk2⟩:=Dp e
  rw [AHi rfl,AHi rfl,AHi rfl]
  have C:Hid (∀ _:Unit,_):=λ_=>Ol k hk2 b.c1 (b.cq hk)
  have L:Hid (∀ _:Unit,_):=λ_=>L9 (b.qs k (by omega))
  obtain ⟨p,hp⟩:∃ p,Rv n K (k:Int)=p:=⟨_,rfl⟩
  have hpn:p<=n:=by rw [<- hp];unfold Rv;rw [AD4];split <;> omega
  have D:Hid (∀ _:Unit,_):=λ_=>I1 (b.qs p (by omega))
  rw [hp]
  have c2:=b.c2
  have HP:Hid ((ks K k=[]->p=n)/\(ks K k≠[]->p=k)):=by
   rw [<- hp]
   unfold Rv
   rw [AD4]
   exact ⟨λz=>by rw [AHi z],λz=>by rw [AHh z]⟩
  by_cases hq:ks K p=[]
  ·have FE:Hid (∀ w1:World,QB w1 (ga s n p) (ks K p).tail->Fr w.heap.size [ga s n p+1,ga s n p] w w1->GX w1 s n (K.set p (ks K p).tail)/\Fr w.heap.size (gz s n) w w1):=λw1 q f=>by
    obtain ⟨b1,f1⟩:=b.put hpn q f
    rw [De K p _ (by rw [hq];rfl)] at b1 ⊢
    exact ⟨⟨W,O,b1,a,o⟩,f1⟩
   have e0:ks K k=[]:=by
    by_cases z:ks K k=[]
    ·exact z
    ·rw [HP.out.2 z] at hq;exact hq
   have pn:p=n:=HP.out.1 e0
   rw [show (ks K k).length=0 by rw [e0];rfl] at L
   rw [show fE (ks K p)=12 from AHi hq,show (ks K p).headD 0=0 by rw [hq];rfl] at D ⊢
   subst pn
   generalize ga s p p+1=gn at *
   generalize ga s p k+1=gk at *
   clear b a o e HX hq e0 HP hp
   go_enter func132,ntmps132
   go_wp2_with fail
   refine (C.out ()).mono ?_
   rintro e w' ⟨rfl,rfl⟩
   go_wp2_with fail
   refine (L.out ()).mono ?_
   rintro e w' ⟨rfl,rfl⟩
   go_wp2_with fail
   refine (D.out ()).mono ?_
   rintro e w1 ⟨rfl,q,f⟩
   have F1:Hid _:=FE.out w1 q f
   clear q f FE
   go_wp2
   go_ret2
   exact ⟨rfl,F1.out⟩
  ·obtain ⟨a2,e2⟩:=Rt a hq
   have FE:Hid (∀ w1:World,QB w1 (ga s n p) (ks K p).tail->Fr w.heap.size [ga s n p+1,ga s n p] w w1->Hid (Calls prog 195 #[.pointer (some ⟨s+6,0,none⟩),.int .i64 ((ks K p).headD 0)] w1 λe w'=>e=.returned (.int .i64 0)/\GX w' s n (K.set p (ks K p).tail)/\Fr w.heap.size (gz s n) w w')):=λw1 q f=>by
    obtain ⟨b1,f1⟩:=b.put hpn q f
    refine (We ((ks K p).headD 0) b1 a a2 o ((Ah a).2 (Bp hq)) e2).mono ?_
    rintro e w2 ⟨rfl,q2,f2⟩
    exact ⟨rfl,q2,f1.trans (f2.less f1.size)⟩
   rw [show fE (ks K p)=0 from AHh hq] at D ⊢
   by_cases z:ks K k=[]
   ·have pn:p=n:=HP.out.1 z
    rw [show (ks K k).length=0 by rw [z];rfl] at L
    subst pn
    generalize ga s p p+1=gn at *
    generalize ga s p k+1=gk at *
    clear b a o e HX hq HP z hp a2 e2
    generalize (ks K p).headD 0=x at *
    go_enter func132,ntmps132
    go_wp2_with fail
    refine (C.out ()).mono ?_
    rintro e w' ⟨rfl,rfl⟩
    go_wp2_with fail
    refine (L.out ()).mono ?_
    rintro e w' ⟨rfl,rfl⟩
    go_wp2_with fail
    refine (D.out ()).mono ?_
    rintro e w1 ⟨rfl,q,f⟩
    have F1:=FE.out w1 q f
    clear q f FE
    go_wp2_with fail
    refine F1.out.mono ?_
    rintro e w2 ⟨rfl,q2⟩
    have F2:Hid _:=q2
    clear q2
    go_wp2
    go_ret2
    exact ⟨rfl,F2.out⟩
   ·have pk:p=k:=HP.out.2 z
    subst pk
    have z0:(((ks K p).length:Int)==0)=false:=by
     have:=AEv.2 z
     simp
     omega
    generalize (ks K p).length=l at *
    generalize ga s n p+1=gk at *
    clear b a o e HX hq HP z hp a2 e2 c2
    generalize (ks K p).headD 0=x at *
    go_enter func132,ntmps132
    go_wp2_with fail
    refine (C.out ()).mono ?_
    rintro e w' ⟨rfl,rfl⟩
    go_wp2_with fail
    refine (L.out ()).mono ?_
    rintro e w' ⟨rfl,rfl⟩
    go_wp2_with fail
    refine (D.out ()).mono ?_
    rintro e w1 ⟨rfl,q,f⟩
    have F1:=FE.out w1 q f
    clear q f FE
    go_wp2_with fail
    refine F1.out.mono ?_
    rintro e w2 ⟨rfl,q2⟩
    have F2:Hid _:=q2
    clear q2
    go_wp2
    go_ret2
    exact ⟨rfl,F2.out⟩
def Wf {n:Nat} (a:Al K) (o:∀ i,1<=i->i<=32->O i=oc K i) (hk:k<n) (hp:ks K k≠[])
 (b2:GB w2 s n (K.set k (ks K k).tail) W O (Ay (oc K)) (λj=>if j=(ks K k).headD 0 then some (-1) else wq n K j)) (q:QB w3 (ga s n n) (ks K n++[(ks K k).headD 0])) (f3:Fr w2.heap.size [ga s n n+1,ga s n n] w2 w3) (f1:Fr w.heap.size (gz s n) w w2):
 GX w3 s n (mv K k n)/\Fr w.heap.size (gz s n) w w3:=by
 have kn:K.length=n+1:=by have:=b2.kn;simpa using this
 obtain ⟨a2,ea⟩:=Oi a (a:=k) (b:=n) (by omega) (by omega) hp
 obtain ⟨b3,g3⟩:=b2.put (ADW n) q f3
 have hr:=a.rg k _ (Bp hp)
 have e1:oc ((K.set k (ks K k).tail).set n (ks K n++[(ks K k).headD 0]))=oc K:=funext λj=>by
  rw [Fv ea hr.1]
  by_cases z:j=((ks K k).headD 0).toNat
  ·rw [AHi z,z]
   unfold oc
   rw [show ((((ks K k).headD 0).toNat:Nat):Int)=(ks K k).headD 0 by omega,(Ah a).2 (Bp hp)]
   rfl
  ·rw [AHh z]
 have e4:(λj=>if j=(ks K k).headD 0 then some (-1) else wq n K j)=wq n ((K.set k (ks K k).tail).set n (ks K n++[(ks K k).headD 0])):=funext λj=>by
  unfold wq
  rw [ea]
  split
  ·rw [Option.map_some]
   unfold nm
   rw [AHi rfl]
  ·rfl
 rw [e4,<- e1] at b3
 rw [show mv K k n=(K.set k (ks K k).tail).set n (ks K n++[(ks K k).headD 0]) from AHh hp]
 exact ⟨⟨W,O,b3,a2,λj j1 j2=>by rw [e1];exact o j j1 j2⟩,f1.trans (g3.less f1.size)⟩
def Wg {n:Nat} (c:Int) (h:GX w s n K):
 Calls prog 244 #[.pointer (some ⟨s+6,0,none⟩),.int .i64 c] w λe w'=>e=.returned (.tuple #[.int .i64 (wL n K c),.int .i64 (Ry n K c)])/\GX w' s n (Rz n K c)/\Fr w.heap.size (gz s n) w w':=by
 have HX:Hid (GX w s n K):=h
 obtain ⟨W,O,b,a,o⟩:=h
 unfold wL Ry Rz
 cases e:AW n c with
 | false=>
  have C:Hid (∀ _:Unit,_):=λ_=>R8 c e b.c1
  rw [AHh (by decide),AHh (by decide),AHh (by decide)]
  clear b a o e
  go_enter func244,ntmps244
  go_wp2_with fail
  refine (C.out ()).mono ?_
  rintro e w' ⟨rfl,rfl⟩
  go_wp2
  go_ret2
  exact ⟨rfl,HX.out,Fr.refl _ _ _⟩
 | true=>
  obtain ⟨k,rfl,hk,hk2⟩:=Dp e
  rw [AHi rfl,AHi rfl,AHi rfl,AD4]
  have C:Hid (∀ _:Unit,_):=λ_=>Ol k hk2 b.c1 (b.cq hk)
  have D:Hid (∀ _:Unit,_):=λ_=>I1 (b.qs k (by omega))
  by_cases hp:ks K k=[]
  ·have FE:Hid (∀ w1:World,QB w1 (ga s n k) (ks K k).tail->Fr w.heap.size [ga s n k+1,ga s n k] w w1->GX w1 s n (mv K k n)/\Fr w.heap.size (gz s n) w w1):=λw1 q f=>by
    obtain ⟨b1,f1⟩:=b.put (by omega) q f
    rw [De K k _ (by rw [hp];rfl)] at b1
    rw [show mv K k n=K from AHi hp]
    exact ⟨⟨W,O,b1,a,o⟩,f1⟩
   rw [show fE (ks K k)=12 from AHi hp,show (ks K k).headD 0=0 by rw [hp];rfl] at D ⊢
   generalize ga s n k+1=gk at *
   clear b a o e HX hp
   go_enter func244,ntmps244
   go_wp2_with fail
   refine (C.out ()).mono ?_
   rintro e w' ⟨rfl,rfl⟩
   go_wp2_with fail
   refine (D.out ()).mono ?_
   rintro e w1 ⟨rfl,q,f⟩
   have F1:Hid _:=FE.out w1 q f
   clear q f FE
   go_wp2
   go_ret2
   exact ⟨rfl,F1.out⟩
  ·have kn:=b.kn
   obtain ⟨a2,ea⟩:=Oi a (a:=k) (b:=n) (by omega) (by omega) hp
   have hm:ks (K.set k (ks K k).tail) n=ks K n:=by rw [BE _ _ _ _ (by omega),AHh (by omega)]
   have no:(ks K k).headD 0∉ks K n:=λz=>by have:=a.one k n _ (Bp hp) z;omega
   have rm:(ks K n).length<32:=by
    have:=a2.len n
    rw [BE _ _ _ _ (by simp;omega),AHi rfl] at this
    simp at this
    omega
   obtain ⟨p1,p2⟩:=Kr no rm
   have hr:=a.rg k _ (Bp hp)
   have FE:Hid (∀ w1:World,QB w1 (ga s n k) (ks K k).tail->Fr w.heap.size [ga s n k+1,ga s n k] w w1->w1.cell? ⟨s+6,3,none⟩=some (.map (some (s+5)))/\∃ w2,(Instr.mapUpdate 143 (.map (some (s+5))) (.int .i64 ((ks K k).headD 0)) (.int .i64 (-1))).run prog w1=.ok () w2/\w2.cell? ⟨s+6,2,none⟩=some (.pointer (some ⟨ga s n n+1,0,none⟩))/\Hid (Calls prog 282 #[.pointer (some ⟨ga s n n+1,0,none⟩),.int .i64 ((ks K k).headD 0)] w2 λe w'=>e=.returned (.int .i64 0)/\GX w' s n (mv K k n)/\Fr w.heap.size (gz s n) w w')):=λw1 q f=>by
    obtain ⟨b1,f1⟩:=b.put (by omega) q f
    obtain ⟨w2,r2,M2,f2⟩:=wN b1.mp (by have:=Ey (oc K);omega) (id:=(ks K k).headD 0) (c:=-1) (Be _ (by omega) (by omega)) (Be _ (by omega) (by omega))
    rw [Kt,(Ah a).2 (Bp hp),AHi (show (some k).isSome=true from rfl)] at M2
    obtain ⟨b2,g2⟩:=b1.map M2 f2
    have q1:=b2.qs n (by omega)
    rw [hm] at q1
    refine ⟨b1.c3,w2,r2,b2.c2,?_⟩
    refine (Gw ((ks K k).headD 0) q1).mono ?_
    rw [p1,p2]
    rintro e w3 ⟨rfl,q3,f3⟩
    exact ⟨rfl,Wf a o hk hp b2 q3 f3 (f1.trans (g2.less f1.size))⟩
   rw [show fE (ks K k)=0 from AHh hp] at D ⊢
   generalize (ks K k).headD 0=x at *
   generalize ga s n k+1=gk at *
   generalize ga s n n+1=gn at *
   clear b a o e HX hp a2 ea hm no rm p1 p2 kn hr
   go_enter func244,ntmps244
   go_wp2_with fail
   refine (C.out ()).mono ?_
   rintro e w' ⟨rfl,rfl⟩
   go_wp2_with fail
   refine (D.out ()).mono ?_
   rintro e w1 ⟨rfl,q,f⟩
   obtain ⟨d3,w2,r2,d2,F1⟩:=FE.out w1 q f
   clear q f FE
   go_wp2_with fail
   refine F1.out.mono ?_
   rintro e w3 ⟨rfl,q2⟩
   have F2:Hid _:=q2
   clear q2
   go_wp2
   go_ret2
   exact ⟨rfl,F2.out⟩
structure GN (w wr:World) (s n k:Nat) (W:List Nat):Prop where
 bel:Below s w wr
 st:AB wr (s+6) [.pointer (some ⟨s+1,0,none⟩),.slice (some ⟨s+4,0,none⟩) n n,.pointer (some ⟨s+3,0,none⟩),.map (some (s+5))] 170
 tb:AB wr (s+4) (Cr (ga s n) n k) 165
 sl:T wr (s+1) s 32 W λ_=>false
 mp:MQ 3 wr (s+5) 0 λ_=>none
 fq:QB wr (s+2) []
 qs:∀ c,c<k->QB wr (s+7+2*c) []
 sz:wr.heap.size=s+7+2*k
def oM {n:Nat} (h:GN w wr s n k W) (hk:k<n) (q:QB w1 (s+7+2*k) []) (f:Fr wr.heap.size [] wr w1) (z:w1.heap.size=wr.heap.size+2):
 GN w (w1.setCell ⟨s+4,k,none⟩ (.pointer (some ⟨s+7+2*k+1,0,none⟩))) s n (k+1) W:=by
 have hz:=h.sz
 have fs:Fr w1.heap.size [s+4] w1 (w1.setCell ⟨s+4,k,none⟩ (.pointer (some ⟨s+7+2*k+1,0,none⟩))):=(Fr.refl _ _ _).setCell (Or.inr (by simp)) _
 refine ⟨(h.bel.trans ((f.below (by simp)).mono (by omega))).setCell (p:=⟨s+4,k,none⟩) (by show s<=s+4;omega) _,(h.st.AA f h.st.lt (by simp)).other (p:=⟨s+4,k,none⟩) (by show s+6≠s+4;omega) _,?_,?_,?_,?_,λc hc=>?_,?_⟩
 ·rw [<- R6,Ed hk]
  exact (h.tb.AA f h.tb.lt (by simp)).set k _
 ·have s1:=h.sl.AA f ⟨h.sl.sb.lt,h.sl.sg.lt⟩ (by simp)
  exact s1.AA fs ⟨s1.sb.lt,s1.sg.lt⟩ ⟨by simp,by simp⟩
 ·have m1:=h.mp.AA f h.mp.lt (by simp)
  exact m1.AA fs m1.lt (by simp)
 ·have q1:=h.fq.AA f h.fq.lt (by simp) (by simp)
  exact q1.AA fs q1.lt (by simp) (by simp)
 ·by_cases e:c=k
  ·subst e
   exact q.AA fs q.lt (by simp;omega) (by simp;omega)
  ·have q1:=(h.qs c (by omega)).AA f (h.qs c (by omega)).lt (by simp) (by simp)
   exact q1.AA fs q1.lt (by simp;omega) (by simp;omega)
 ·show (w1.heap.modify _ _).size=_
  rw [Array.size_modify,z,hz]
  omega
def wO {n:Nat} (h:GN w wr s n n W) (h1:1<=n) (h2:n<=64):GX wr s n (List.replicate (n+1) [])/\Below s w wr:=by
 have e1:=ZG (n+1)
 have e2:wq n (List.replicate (n+1) [])=λ_=>none:=funext λj=>by unfold wq;rw [H4];rfl
 have e3:Ay (λ_=>false)=0:=by decide
 refine ⟨⟨W,λ_=>false,⟨h.st,by rw [<- R7];exact h.tb,h.sl,by rw [e1,e2,e3];exact h.mp,?_,by simp,h1,h2⟩,M9 _,λi _ _=>by rw [e1]⟩,h.bel⟩
 intro c hc
 rw [H9]
 by_cases e:c=n
 ·rw [e,IA]
  exact h.fq
 ·rw [Ed (by omega)]
  exact h.qs c (by omega)
def GZ (n:Nat) (w:World) (h1:(1:Int)<=n) (h2:(n:Int)<=64):
 Calls prog 31 #[.int .i64 (n:Int)] w λe w'=>e=.returned (.tuple #[.pointer (some ⟨w.heap.size+6,0,none⟩),.int .i64 0])/\GX w' w.heap.size n (List.replicate (n+1) [])/\Below w.heap.size w w':=by
 have NS:Hid (∀ _:Unit,_):=λ_=>Ec 32 w (by decide) (by decide)
 have C:Hid (∀ w,_):=λw=>R4 w
 have hmk:=run_make_row' (P:=prog) 168 165 (.pointer none) 8 underlying168 Tryz.Mi rfl .i64 .i64 n (by omega) (by omega)
 have hmm:=@run_makeMap prog
 obtain ⟨s,hs⟩:∃ s,w.heap.size=s:=⟨_,rfl⟩
 have HS:Hid (w.heap.size=s):=hs
 rw [hs] at NS ⊢
 rw [Pr (ga s n) n] at hmk
 obtain ⟨T0,hT⟩:∃ T0,Cr (ga s n) n 0=T0:=⟨_,rfl⟩
 have HT:Hid (Cr (ga s n) n 0=T0):=hT
 rw [hT] at hmk
 clear hT hs
 go_enter func31,ntmps31
 go_wp2_with fail
 refine (NS.out ()).mono ?_
 rintro e w1 ⟨rfl,⟨W,sl⟩,f1,z1⟩
 have SL:Hid (T w1 (s+1) s 32 W λ_=>false):=sl
 have F1:Hid (Fr s [] w w1/\w1.heap.size=s+2):=⟨f1,z1⟩
 have C1:Hid (∀ _:Unit,_):=λ_=>C.out w1
 rw [z1] at C1
 clear sl f1 z1 NS
 go_wp2_with fail
 refine (C1.out ()).mono ?_
 rintro e w2 ⟨rfl,fq,f2,z2⟩
 have P0:Hid (GN w (((w2.alloc (.cells T0.toArray 165)).alloc (.map #[] 0)).alloc (.cells #[.pointer (some ⟨s+1,0,none⟩),.slice (some ⟨s+4,0,none⟩) n n,.pointer (some ⟨s+3,0,none⟩),.map (some (s+5))] 170)) s n 0 W):=by
  obtain ⟨f1,z1⟩:=F1.out
  have b0:Below s w w2:=(f1.below (by simp)).trans ((f2.less (by omega)).below (by simp))
  have s2:=SL.out.AA f2 ⟨by omega,by omega⟩ ⟨by simp,by simp⟩
  refine ⟨((b0.alloc (by omega) _).alloc (by simp;omega) _).alloc (by simp;omega) _,?_,?_,?_,?_,?_,λc hc=>by omega,by simp [z2]⟩
  ·have:=AB.new ((w2.alloc (.cells T0.toArray 165)).alloc (.map #[] 0)) [.pointer (some ⟨s+1,0,none⟩),.slice (some ⟨s+4,0,none⟩) n n,.pointer (some ⟨s+3,0,none⟩),.map (some (s+5))] 170
   rwa [World.size_alloc,World.size_alloc,z2] at this
  ·rw [HT.out]
   have:=((AB.new w2 T0 165).alloc (.map #[] 0)).alloc (.cells #[.pointer (some ⟨s+1,0,none⟩),.slice (some ⟨s+4,0,none⟩) n n,.pointer (some ⟨s+3,0,none⟩),.map (some (s+5))] 170)
   rwa [z2] at this
  ·exact ⟨((s2.sb.alloc _).alloc _).alloc _,((s2.sg.alloc _).alloc _).alloc _,s2.wd⟩
  ·have m0:=Jj (te:=3) (w2.alloc (.cells T0.toArray 165))
   rw [World.size_alloc,z2] at m0
   exact m0.AA ((Fr.refl _ [] _).alloc (ADW _) _) m0.lt (by simp)
  ·exact fq.AA ((((Fr.refl w2.heap.size [] w2).alloc (ADW _) _).alloc (by simp) _).alloc (by simp;omega) _) fq.lt (by simp) (by simp)
 have z3:w2.heap.size=s+4:=by rw [z2]
 clear fq f2 C1 SL F1 z2
 go_wp2
 simp only [z3] at *
 go_loopw [43] (λi wr=>∃ (k:Nat),(k:Int)<=n/\i=.int .i64 (k:Int)/\GN w wr s n k W) (λi _=>n-(intOf i).toNat)
 case atStart=>exact ⟨0,by omega,rfl,P0.out⟩
 case round=>
  obtain ⟨k,hk,rfl,P⟩:=hrel
  by_cases c:(k:Int)<n
  ·have C1:Hid (∀ _:Unit,_):=λ_=>C.out wr
   have ST:Hid (∀ w1:World,QB w1 wr.heap.size []->Fr wr.heap.size [] wr w1->w1.heap.size=wr.heap.size+2->GN w (w1.setCell ⟨s+4,k,none⟩ (.pointer (some ⟨wr.heap.size+1,0,none⟩))) s n (k+1) W):=λw1 q f z=>by
    rw [P.sz] at q ⊢
    exact oM P (by omega) q f z
   have cb:Hid (∀ w1:World,Fr wr.heap.size [] wr w1->w1.cell? ⟨s+4,k,none⟩=some (.pointer none)/\w1.frozen? ⟨s+4,k,none⟩=false/\w1.cell? ⟨s+6,1,none⟩=some (.slice (some ⟨s+4,0,none⟩) n n)):=λw1 f=>by
    have b:=P.tb.AA f P.tb.lt (by simp)
    have b2:=P.st.AA f P.st.lt (by simp)
    exact ⟨by rw [b.cell,I3 _ _ _ _ (by omega),AHh (by omega)],b.free k,b2.cell 1⟩
   clear P P0
   go_wp2_with fail
   refine (C1.out ()).mono ?_
   rintro e w1 ⟨rfl,q,f,z⟩
   obtain ⟨c1,f1,s1⟩:=cb.out w1 f
   have N2:Hid _:=ST.out w1 q f z
   clear q f z
   go_wp2
   go_roundw
   case rel=>exact ⟨k+1,by omega,by go_num,N2.out⟩
   case measure=>simp [intOf];omega
  ·obtain rfl:k=n:=by omega
   have e:Hid _:=wO P (by omega) (by omega)
   clear P P0
   go_wp2
   go_ret2
   exact ⟨rfl,e.out⟩
def ca (s c:Nat):Nat:=s+4+2*c
def cz (s p:Nat):List Nat:=List.range' s (4+2*p)
def SA (s p k:Nat):k∈cz s p↔s<=k/\k<s+(4+2*p):=by unfold cz;rw [AEt]
structure CB (w:World) (s:Nat) (K:Ks) (W:List Nat) (O:Nat->Bool):Prop where
 st:AB w (s+3) [.pointer (some ⟨s+1,0,none⟩),.slice (some ⟨s+2,0,none⟩) K.length K.length] 172
 tb:AB w (s+2) (Oj (ca s) K.length) 165
 sl:T w (s+1) s 32 W O
 qs:QS w (ca s) K.length K
 n1:1<=K.length
 n2:K.length<=64
section
variable {w w':World} {s:Nat} {K:Ks} {W:List Nat} {O:Nat->Bool}
def CB.hi (h:CB w s K W O):s+(4+2*K.length)<=w.heap.size:=by
 have:=(h.qs (K.length-1) (by have:=h.n1;omega)).lt
 have:=h.n1
 unfold ca at *
 omega
def CB.c0 (h:CB w s K W O):w.cell? ⟨s+3,0,none⟩=some (.pointer (some ⟨s+1,0,none⟩)):=h.st.cell 0
def CB.c1 (h:CB w s K W O):w.cell? ⟨s+3,1,none⟩=some (.slice (some ⟨s+2,0,none⟩) K.length K.length):=h.st.cell 1
def CB.cq (h:CB w s K W O) (hc:c<K.length):w.cell? ⟨s+2,c,none⟩=some (.pointer (some ⟨ca s c+1,0,none⟩)):=by
 rw [h.tb.cell c,R5 _ _ _ hc]
def CB.AA {B:Nat} {S:List Nat} (h:CB w s K W O) (f:Fr B S w w') (hB:w.heap.size<=B) (hS:∀ k,s<=k->k<s+(4+2*K.length)->k∉S):CB w' s K W O:=by
 have hi:=h.hi
 refine ⟨h.st.AA f (by omega) (hS _ (by omega) (by omega)),h.tb.AA f (by omega) (hS _ (by omega) (by omega)),h.sl.AA f ⟨by omega,by omega⟩ ⟨hS _ (by omega) (by omega),hS _ (by omega) (by omega)⟩,h.qs.AA f hB λc hc=>⟨hS _ (by unfold ca;omega) (by unfold ca;omega),hS _ (by unfold ca;omega) (by unfold ca;omega)⟩,h.n1,h.n2⟩
def CB.put (h:CB w s K W O) {c:Nat} (hc:c<K.length) {X:List Int} (q:QB w' (ca s c) X) (f:Fr w.heap.size [ca s c+1,ca s c] w w'):CB w' s (K.set c X) W O/\Fr w.heap.size (cz s K.length) w w':=by
 have hi:=h.hi
 have nz:∀ k,k<s+4->k∉[ca s c+1,ca s c]:=λk hk e=>by simp at e;unfold ca at e;omega
 refine ⟨⟨?_,?_,h.sl.AA f ⟨by omega,by omega⟩ ⟨nz _ (by omega),nz _ (by omega)⟩,?_,by simpa using h.n1,by simpa using h.n2⟩,f.mono (ADW _) λk _ hk e=>hk ((SA s _ k).2 (by simp at e;unfold ca at e;omega))⟩
 ·rw [AEU]
  exact h.st.AA f (by omega) (nz _ (by omega))
 ·rw [AEU]
  exact h.tb.AA f (by omega) (nz _ (by omega))
 ·rw [AEU]
  exact h.qs.put hc (λd hd e=>by unfold ca;omega) q f
def CB.slot (h:CB w s K W O) (q:T w' (s+1) s 32 W' O') (f:Fr w.heap.size [s+1,s] w w'):CB w' s K W' O'/\Fr w.heap.size (cz s K.length) w w':=by
 have hi:=h.hi
 have nz:∀ k,s+2<=k->k∉[s+1,s]:=λk hk e=>by simp at e;omega
 refine ⟨⟨h.st.AA f (by omega) (nz _ (by omega)),h.tb.AA f (by omega) (nz _ (by omega)),q,h.qs.AA f (ADW _) λc hc=>⟨nz _ (by unfold ca;omega),nz _ (by unfold ca;omega)⟩,h.n1,h.n2⟩,f.mono (ADW _) λk _ hk e=>hk ((SA s _ k).2 (by simp at e;omega))⟩
end
def CX (w:World) (s:Nat) (K:Ks):Prop:=∃ W O,CB w s K W O/\Al K/\∀ i,1<=i->i<=32->O i=oc K i
def CX.AA {B:Nat} {S:List Nat} {w w':World} {s:Nat} {K:Ks} (h:CX w s K) (f:Fr B S w w') (hB:w.heap.size<=B) (hS:∀ k,s<=k->k<s+(4+2*K.length)->k∉S):CX w' s K:=by
 obtain ⟨W,O,b,a,o⟩:=h
 exact ⟨W,O,b.AA f hB hS,a,o⟩
def CX.hi {w:World} {s:Nat} {K:Ks} (h:CX w s K):s+(4+2*K.length)<=w.heap.size:=by
 obtain ⟨W,O,b,a,o⟩:=h
 exact b.hi
def IB {n:Nat} (c:Nat) (hc:(c:Int)<n) (c1:w.cell? ⟨t,1,none⟩=some (.slice (some ⟨tb,0,none⟩) n n)) (cw:w.cell? ⟨tb,c,none⟩=some (.pointer (some ⟨a,0,none⟩))):
 Calls prog 104 #[.pointer (some ⟨t,0,none⟩),.int .i64 (c:Int)] w λe w'=>e=.returned (.tuple #[.pointer (some ⟨a,0,none⟩),.int .i64 0])/\w'=w:=by
 go_enter func104,ntmps104
 go_wp2
 go_ret2
 exact ⟨rfl,rfl⟩
def Jp {n:Nat} (c:Int) (hc:AW n c=false) (c1:w.cell? ⟨t,1,none⟩=some (.slice (some ⟨tb,0,none⟩) n n)):
 Calls prog 104 #[.pointer (some ⟨t,0,none⟩),.int .i64 c] w λe w'=>e=.returned (.tuple #[.pointer none,.int .i64 3])/\w'=w:=by
 rcases Pp hc with q | ⟨q,q2⟩
 ·clear hc
  go_enter func104,ntmps104
  go_wp2
  go_ret2
  exact ⟨rfl,rfl⟩
 ·clear hc
  go_enter func104,ntmps104
  go_wp2
  go_ret2
  exact ⟨rfl,rfl⟩
def fA (_b:CB w s K W O) (a:Al K) (o:∀ i,1<=i->i<=32->O i=oc K i) (hc:c<K.length) (hi:nx K=some i)
 (b1:CB w1 s K W' (st O (i+1) true)) (f1:Fr w.heap.size (cz s K.length) w w1) (q:QB w2 (ca s c) (ks K c++[((i+1:Nat):Int)])) (f2:Fr w1.heap.size [ca s c+1,ca s c] w1 w2):
 CX w2 s (K.set c (ks K c++[((i+1:Nat):Int)]))/\Fr w.heap.size (cz s K.length) w w2:=by
 obtain ⟨h1,h2⟩:=Cp hi
 obtain ⟨a2,e2⟩:=Fp a hc h2 (by omega) (by omega)
 obtain ⟨b2,g2⟩:=b1.put hc q f2
 refine ⟨⟨W',_,b2,a2,λj j1 j2=>?_⟩,f1.trans (g2.less f1.size)⟩
 rw [Fv e2 (by omega)]
 unfold st
 by_cases z:j=i+1
 ·rw [AHi z,AHi (by omega)]
 ·rw [AHh z,AHh (by omega),o j j1 j2]
def fB (c:Int) (h:CX w s K) (ht:A9 w):
 Calls prog 232 #[.pointer (some ⟨s+3,0,none⟩),.int .i64 c] w λe w'=>e=.returned (.tuple #[.int .i64 (kQ K c),.int .i64 (kR K c)])/\CX w' s (Ru K c)/\Fr w.heap.size (cz s K.length) w w':=by
 have HX:Hid (CX w s K):=h
 obtain ⟨W,O,b,a,o⟩:=h
 unfold kQ kR Ru
 cases e:AW K.length c with
 | false=>
  have C:Hid (∀ _:Unit,_):=λ_=>Jp c e b.c1
  rw [AHh (by decide),AHh (by decide),AHh (by decide)]
  clear b a o e
  go_enter func232,ntmps232
  go_wp2_with fail
  refine (C.out ()).mono ?_
  rintro e w' ⟨rfl,rfl⟩
  go_wp2
  go_ret2
  exact ⟨rfl,HX.out,Fr.refl _ _ _⟩
 | true=>
  obtain ⟨k,rfl,hk,hk2⟩:=Dp e
  rw [AHi rfl,AHi rfl,AHi rfl,AD4]
  have C:Hid (∀ _:Unit,_):=λ_=>IB k hk2 b.c1 (b.cq hk)
  have c0:=b.c0
  have D:Hid (∀ _:Unit,_):=λ_=>Pq w b.sl ht
  rw [U' o] at D
  cases hx:nx K with
  | none=>
   rw [hx] at D
   have FE:Hid (∀ w1:World,(∃ W',T w1 (s+1) s 32 W' (tO O none))->Fr w.heap.size [s+1,s] w w1->CX w1 s K/\Fr w.heap.size (cz s K.length) w w1):=λw1 ⟨W',q⟩ f=>by
    obtain ⟨b1,f1⟩:=b.slot q f
    exact ⟨⟨W',_,b1,a,o⟩,f1⟩
   rw [show tN none=0 from rfl,show tE none=5 from rfl] at D ⊢
   rw [show NF K k none=K from rfl]
   clear b a o e HX
   go_enter func232,ntmps232
   go_wp2_with fail
   refine (C.out ()).mono ?_
   rintro e w' ⟨rfl,rfl⟩
   go_wp2_with fail
   refine (D.out ()).mono ?_
   rintro e w1 ⟨rfl,q,f⟩
   have F1:Hid _:=FE.out w1 q f
   clear q f FE
   go_wp2
   go_ret2
   exact ⟨rfl,F1.out⟩
  | some i=>
   rw [hx] at D
   obtain ⟨h1,h2⟩:=Cp hx
   have rm:=a.room h2 (by omega) (by omega) hk
   obtain ⟨p1,p2⟩:=Kr (At.1 h2 k) rm
   have FE:Hid (∀ w1:World,(∃ W',T w1 (s+1) s 32 W' (tO O (some i)))->Fr w.heap.size [s+1,s] w w1->Hid (Calls prog 282 #[.pointer (some ⟨ca s k+1,0,none⟩),.int .i64 ((i+1:Nat):Int)] w1 λe w'=>e=.returned (.int .i64 0)/\CX w' s (K.set k (ks K k++[((i+1:Nat):Int)]))/\Fr w.heap.size (cz s K.length) w w')):=λw1 ⟨W',q⟩ f=>by
    obtain ⟨b1,f1⟩:=b.slot q f
    refine (Gw ((i+1:Nat):Int) (b1.qs k hk)).mono ?_
    rw [p1,p2]
    rintro e w2 ⟨rfl,q2,f2⟩
    exact ⟨rfl,fA b a o hk hx b1 f1 q2 f2⟩
   rw [show tN (some i)=((i+1:Nat):Int) from rfl,show tE (some i)=0 from rfl] at D ⊢
   rw [show NF K k (some i)=K.set k (ks K k++[((i+1:Nat):Int)]) from rfl]
   clear b a o e HX hx h1 h2 rm p1 p2
   generalize ((i+1:Nat):Int)=x at *
   go_enter func232,ntmps232
   go_wp2_with fail
   refine (C.out ()).mono ?_
   rintro e w' ⟨rfl,rfl⟩
   go_wp2_with fail
   refine (D.out ()).mono ?_
   rintro e w1 ⟨rfl,q,f⟩
   have F1:=FE.out w1 q f
   clear q f FE
   go_wp2_with fail
   refine F1.out.mono ?_
   rintro e w2 ⟨rfl,q2⟩
   have F2:Hid _:=q2
   clear q2
   go_wp2
   go_ret2
   exact ⟨rfl,F2.out⟩
def ZO (_b:CB w s K W O) (a:Al K) (o:∀ i,1<=i->i<=32->O i=oc K i) (hp:ks K c≠[])
 (b1:CB w1 s (K.set c (ks K c).tail) W O) (f1:Fr w.heap.size (cz s K.length) w w1) (q:T w2 (s+1) s 32 W' (gO 32 O ((ks K c).headD 0))) (f2:Fr w1.heap.size [s+1,s] w1 w2):
 CX w2 s (K.set c (ks K c).tail)/\Fr w.heap.size (cz s K.length) w w2:=by
 obtain ⟨a2,e2⟩:=Rt a hp
 have hr:=a.rg c _ (Bp hp)
 obtain ⟨b2,g2⟩:=b1.slot q f2
 rw [AEU] at g2
 refine ⟨⟨W',_,b2,a2,λj j1 j2=>?_⟩,f1.trans (g2.less f1.size)⟩
 have hs1:hs 32 O ((ks K c).headD 0)=true:=by rw [WZ a o];unfold JK;rw [(Ah a).2 (Bp hp)];rfl
 rw [oL e2 (by omega)]
 unfold gO
 rw [AHi hs1]
 unfold st
 by_cases z:j=((ks K c).headD 0).toNat
 ·rw [AHi z,AHi z]
 ·rw [AHh z,AHh z,o j j1 j2]
def Jq (c:Int) (h:CX w s K):
 Calls prog 129 #[.pointer (some ⟨s+3,0,none⟩),.int .i64 c] w λe w'=>e=.returned (.tuple #[.int .i64 (LO K c),.int .i64 (kS K c)])/\CX w' s (NH K c)/\Fr w.heap.size (cz s K.length) w w':=by
 have HX:Hid (CX w s K):=h
 obtain ⟨W,O,b,a,o⟩:=h
 unfold LO kS NH
 cases e:AW K.length c with
 | false=>
  have C:Hid (∀ _:Unit,_):=λ_=>Jp c e b.c1
  rw [AHh (by decide),AHh (by decide),AHh (by decide)]
  clear b a o e
  go_enter func129,ntmps129
  go_wp2_with fail
  refine (C.out ()).mono ?_
  rintro e w' ⟨rfl,rfl⟩
  go_wp2
  go_ret2
  exact ⟨rfl,HX.out,Fr.refl _ _ _⟩
 | true=>
  obtain ⟨k,rfl,hk,hk2⟩:=Dp e
  rw [AHi rfl,AHi rfl,AHi rfl,AD4]
  have C:Hid (∀ _:Unit,_):=λ_=>IB k hk2 b.c1 (b.cq hk)
  have D:Hid (∀ _:Unit,_):=λ_=>I1 (b.qs k hk)
  by_cases hp:ks K k=[]
  ·have FE:Hid (∀ w1:World,QB w1 (ca s k) (ks K k).tail->Fr w.heap.size [ca s k+1,ca s k] w w1->CX w1 s (K.set k (ks K k).tail)/\Fr w.heap.size (cz s K.length) w w1):=λw1 q f=>by
    obtain ⟨b1,f1⟩:=b.put hk q f
    rw [De K k _ (by rw [hp];rfl)] at b1 ⊢
    exact ⟨⟨W,O,b1,a,o⟩,f1⟩
   rw [show fE (ks K k)=12 from AHi hp,show (ks K k).headD 0=0 by rw [hp];rfl] at D ⊢
   clear b a o e HX hp
   go_enter func129,ntmps129
   go_wp2_with fail
   refine (C.out ()).mono ?_
   rintro e w' ⟨rfl,rfl⟩
   go_wp2_with fail
   refine (D.out ()).mono ?_
   rintro e w1 ⟨rfl,q,f⟩
   have F1:Hid _:=FE.out w1 q f
   clear q f FE
   go_wp2
   go_ret2
   exact ⟨rfl,F1.out⟩
  ·have FE:Hid (∀ w1:World,QB w1 (ca s k) (ks K k).tail->Fr w.heap.size [ca s k+1,ca s k] w w1->w1.cell? ⟨s+3,0,none⟩=some (.pointer (some ⟨s+1,0,none⟩))/\Hid (Calls prog 190 #[.pointer (some ⟨s+1,0,none⟩),.int .i64 ((ks K k).headD 0)] w1 λe w'=>e=.returned (.int .i64 0)/\CX w' s (K.set k (ks K k).tail)/\Fr w.heap.size (cz s K.length) w w')):=λw1 q f=>by
    obtain ⟨b1,f1⟩:=b.put hk q f
    refine ⟨b1.c0,(Gv ((ks K k).headD 0) w1 b1.sl).mono ?_⟩
    rintro e w2 ⟨rfl,⟨W',q2⟩,f2⟩
    refine ⟨?_,ZO b a o hp b1 f1 q2 f2⟩
    have hs1:hs 32 O ((ks K k).headD 0)=true:=by rw [WZ a o];unfold JK;rw [(Ah a).2 (Bp hp)];rfl
    unfold gE
    rw [AHi hs1]
   rw [show fE (ks K k)=0 from AHh hp] at D ⊢
   clear b a o e HX hp
   generalize (ks K k).headD 0=x at *
   go_enter func129,ntmps129
   go_wp2_with fail
   refine (C.out ()).mono ?_
   rintro e w' ⟨rfl,rfl⟩
   go_wp2_with fail
   refine (D.out ()).mono ?_
   rintro e w1 ⟨rfl,q,f⟩
   obtain ⟨d0,F1⟩:=FE.out w1 q f
   clear q f FE
   go_wp2_with fail
   refine F1.out.mono ?_
   rintro e w2 ⟨rfl,q2⟩
   have F2:Hid _:=q2
   clear q2
   go_wp2
   go_ret2
   exact ⟨rfl,F2.out⟩
def ZP (c d:Int) (h:CX w s K):
 Calls prog 245 #[.pointer (some ⟨s+3,0,none⟩),.int .i64 c,.int .i64 d] w λe w'=>e=.returned (.tuple #[.int .i64 (Rl K c d),.int .i64 (GQ K c d)])/\CX w' s (DV K c d)/\Fr w.heap.size (cz s K.length) w w':=by
 have HX:Hid (CX w s K):=h
 obtain ⟨W,O,b,a,o⟩:=h
 unfold Rl GQ DV
 cases e:AW K.length c with
 | false=>
  have C:Hid (∀ _:Unit,_):=λ_=>Jp c e b.c1
  rw [AHh (by simp),AHh (by simp),AHh (by simp)]
  clear b a o e
  go_enter func245,ntmps245
  go_wp2_with fail
  refine (C.out ()).mono ?_
  rintro e w' ⟨rfl,rfl⟩
  go_wp2
  go_ret2
  exact ⟨rfl,HX.out,Fr.refl _ _ _⟩
 | true=>
  obtain ⟨k,rfl,hk,hk2⟩:=Dp e
  have C:Hid (∀ _:Unit,_):=λ_=>IB k hk2 b.c1 (b.cq hk)
  cases e2:AW K.length d with
  | false=>
   have D:Hid (∀ _:Unit,_):=λ_=>Jp d e2 b.c1
   rw [AHh (by simp),AHh (by simp),AHh (by simp)]
   clear b a o e e2
   go_enter func245,ntmps245
   go_wp2_with fail
   refine (C.out ()).mono ?_
   rintro e w' ⟨rfl,rfl⟩
   go_wp2_with fail
   refine (D.out ()).mono ?_
   rintro e w' ⟨rfl,rfl⟩
   go_wp2
   go_ret2
   exact ⟨rfl,HX.out,Fr.refl _ _ _⟩
  | true=>
   obtain ⟨l,rfl,hl,hl2⟩:=Dp e2
   have D:Hid (∀ _:Unit,_):=λ_=>IB l hl2 b.c1 (b.cq hl)
   by_cases q:(k:Int)=l
   ·rw [AHh (λz=>z.2.2 q),AHi ⟨rfl,rfl⟩,AHi q,AHh (λz=>z.2.2 q)]
    have q2:((k:Int)==(l:Int))=true:=by simpa using q
    clear b a o e e2 q
    go_enter func245,ntmps245
    go_wp2_with fail
    refine (C.out ()).mono ?_
    rintro e w' ⟨rfl,rfl⟩
    go_wp2_with fail
    refine (D.out ()).mono ?_
    rintro e w' ⟨rfl,rfl⟩
    go_wp2
    go_ret2
    exact ⟨rfl,HX.out,Fr.refl _ _ _⟩
   ·rw [AHi ⟨rfl,rfl,q⟩,AHi ⟨rfl,rfl⟩,AHh q,AHi ⟨rfl,rfl,q⟩,AD4,AD4]
    have q2:((k:Int)==(l:Int))=false:=by simpa using q
    have P:Hid (∀ _:Unit,_):=λ_=>I1 (b.qs k hk)
    have hn:k≠l:=by omega
    by_cases hp:ks K k=[]
    ·have FE:Hid (∀ w1:World,QB w1 (ca s k) (ks K k).tail->Fr w.heap.size [ca s k+1,ca s k] w w1->CX w1 s (mv K k l)/\Fr w.heap.size (cz s K.length) w w1):=λw1 q f=>by
      obtain ⟨b1,f1⟩:=b.put hk q f
      rw [De K k _ (by rw [hp];rfl)] at b1
      rw [show mv K k l=K from AHi hp]
      exact ⟨⟨W,O,b1,a,o⟩,f1⟩
     rw [show fE (ks K k)=12 from AHi hp,show (ks K k).headD 0=0 by rw [hp];rfl] at P ⊢
     clear b a o e e2 HX hp q hn
     go_enter func245,ntmps245
     go_wp2_with fail
     refine (C.out ()).mono ?_
     rintro e w' ⟨rfl,rfl⟩
     go_wp2_with fail
     refine (D.out ()).mono ?_
     rintro e w' ⟨rfl,rfl⟩
     go_wp2_with fail
     refine (P.out ()).mono ?_
     rintro e w1 ⟨rfl,q,f⟩
     have F1:Hid _:=FE.out w1 q f
     clear q f FE
     go_wp2
     go_ret2
     exact ⟨rfl,F1.out⟩
    ·obtain ⟨a2,ea⟩:=Oi a hl hn hp
     have hm:ks (K.set k (ks K k).tail) l=ks K l:=by rw [BE _ _ _ _ hk,AHh (λz=>hn z.symm)]
     have no:(ks K k).headD 0∉ks K l:=λz=>hn (a.one k l _ (Bp hp) z)
     have rm:(ks K l).length<32:=by
      have:=a2.len l
      rw [BE _ _ _ _ (by simpa using hl),AHi rfl] at this
      simp at this
      omega
     obtain ⟨p1,p2⟩:=Kr no rm
     have FE:Hid (∀ w1:World,QB w1 (ca s k) (ks K k).tail->Fr w.heap.size [ca s k+1,ca s k] w w1->Hid (Calls prog 282 #[.pointer (some ⟨ca s l+1,0,none⟩),.int .i64 ((ks K k).headD 0)] w1 λe w'=>e=.returned (.int .i64 0)/\CX w' s (mv K k l)/\Fr w.heap.size (cz s K.length) w w')):=λw1 q f=>by
      obtain ⟨b1,f1⟩:=b.put hk q f
      have q1:=b1.qs l (by simpa using hl)
      rw [hm] at q1
      refine (Gw ((ks K k).headD 0) q1).mono ?_
      rw [p1,p2]
      rintro e w2 ⟨rfl,q2,f2⟩
      obtain ⟨b2,g2⟩:=b1.put (c:=l) (by simpa using hl) q2 f2
      rw [AEU] at g2
      rw [show mv K k l=(K.set k (ks K k).tail).set l (ks K l++[(ks K k).headD 0]) from AHh hp]
      refine ⟨rfl,⟨W,O,b2,a2,λj j1 j2=>?_⟩,f1.trans (g2.less f1.size)⟩
      have hr:=a.rg k _ (Bp hp)
      rw [o j j1 j2,Fv ea hr.1]
      by_cases z:j=((ks K k).headD 0).toNat
      ·rw [AHi z,z]
       unfold oc
       rw [show ((((ks K k).headD 0).toNat:Nat):Int)=(ks K k).headD 0 by omega,(Ah a).2 (Bp hp)]
       rfl
      ·rw [AHh z]
     rw [show fE (ks K k)=0 from AHh hp] at P ⊢
     clear b a o e e2 HX hp q hn a2 ea hm no rm p1 p2
     generalize (ks K k).headD 0=x at *
     go_enter func245,ntmps245
     go_wp2_with fail
     refine (C.out ()).mono ?_
     rintro e w' ⟨rfl,rfl⟩
     go_wp2_with fail
     refine (D.out ()).mono ?_
     rintro e w' ⟨rfl,rfl⟩
     go_wp2_with fail
     refine (P.out ()).mono ?_
     rintro e w1 ⟨rfl,q,f⟩
     have F1:=FE.out w1 q f
     clear q f FE
     go_wp2_with fail
     refine F1.out.mono ?_
     rintro e w2 ⟨rfl,q2⟩
     have F2:Hid _:=q2
     clear q2
     go_wp2
     go_ret2
     exact ⟨rfl,F2.out⟩
def ZQ (c:Int) (h:CX w s K):
 Calls prog 56 #[.pointer (some ⟨s+3,0,none⟩),.int .i64 c] w λe w'=>e=.returned (.int .i64 ((LP K c).length:Int))/\w'=w:=by
 obtain ⟨W,O,b,a,o⟩:=h
 unfold LP
 cases e:AW K.length c with
 | false=>
  have C:Hid (∀ _:Unit,_):=λ_=>Jp c e b.c1
  have D:Hid (∀ w,_):=λw=>UZ w
  rw [AHh (by decide),show ((([]:List Int).length:Nat):Int)=0 from rfl]
  clear b a o e
  go_enter func56,ntmps56
  go_wp2_with fail
  refine (C.out ()).mono ?_
  rintro e w' ⟨rfl,rfl⟩
  go_wp2_with fail
  refine (D.out _).mono ?_
  rintro e w' ⟨rfl,rfl⟩
  go_wp2
  go_ret
  exact ⟨rfl,rfl⟩
 | true=>
  obtain ⟨k,rfl,hk,hk2⟩:=Dp e
  rw [AHi rfl,AD4]
  have C:Hid (∀ _:Unit,_):=λ_=>IB k hk2 b.c1 (b.cq hk)
  have D:Hid (∀ _:Unit,_):=λ_=>L9 (b.qs k hk)
  generalize (ks K k).length=l at *
  clear b a o e
  go_enter func56,ntmps56
  go_wp2_with fail
  refine (C.out ()).mono ?_
  rintro e w' ⟨rfl,rfl⟩
  go_wp2_with fail
  refine (D.out ()).mono ?_
  rintro e w' ⟨rfl,rfl⟩
  go_wp2
  go_ret
  exact ⟨rfl,rfl⟩
structure CN (w wr:World) (s n k:Nat) (W:List Nat):Prop where
 bel:Below s w wr
 st:AB wr (s+3) [.pointer (some ⟨s+1,0,none⟩),.slice (some ⟨s+2,0,none⟩) n n] 172
 tb:AB wr (s+2) (Cr (ca s) n k) 165
 sl:T wr (s+1) s 32 W λ_=>false
 qs:∀ c,c<k->QB wr (ca s c) []
 sz:wr.heap.size=ca s k
def oN {n:Nat} (h:CN w wr s n k W) (q:QB w1 (ca s k) []) (f:Fr wr.heap.size [] wr w1) (z:w1.heap.size=wr.heap.size+2):
 CN w (w1.setCell ⟨s+2,k,none⟩ (.pointer (some ⟨ca s k+1,0,none⟩))) s n (k+1) W:=by
 have hz:=h.sz
 have fs:Fr w1.heap.size [s+2] w1 (w1.setCell ⟨s+2,k,none⟩ (.pointer (some ⟨ca s k+1,0,none⟩))):=(Fr.refl _ _ _).setCell (Or.inr (by simp)) _
 have hc:s+4<=ca s k:=by unfold ca;omega
 refine ⟨(h.bel.trans ((f.below (by simp)).mono (by omega))).setCell (p:=⟨s+2,k,none⟩) (by show s<=s+2;omega) _,(h.st.AA f h.st.lt (by simp)).other (p:=⟨s+2,k,none⟩) (by show s+3≠s+2;omega) _,?_,?_,λc hc=>?_,?_⟩
 ·rw [<- R6]
  exact (h.tb.AA f h.tb.lt (by simp)).set k _
 ·have s1:=h.sl.AA f ⟨h.sl.sb.lt,h.sl.sg.lt⟩ (by simp)
  exact s1.AA fs ⟨s1.sb.lt,s1.sg.lt⟩ ⟨by simp,by simp⟩
 ·by_cases e:c=k
  ·subst e
   exact q.AA fs q.lt (by simp;omega) (by simp;omega)
  ·have q1:=(h.qs c (by omega)).AA f (h.qs c (by omega)).lt (by simp) (by simp)
   exact q1.AA fs q1.lt (by simp [ca];omega) (by simp [ca];omega)
 ·show (w1.heap.modify _ _).size=_
  rw [Array.size_modify,z,hz]
  unfold ca
  omega
def wP {n:Nat} (h:CN w wr s n n W) (h1:1<=n) (h2:n<=64):CX wr s (List.replicate n [])/\Below s w wr:=by
 refine ⟨⟨W,λ_=>false,⟨by rw [AED];exact h.st,by rw [AED,<- R7];exact h.tb,h.sl,?_,by simpa using h1,by simpa using h2⟩,M9 n,λi _ _=>by rw [ZG]⟩,h.bel⟩
 rw [AED]
 intro c hc
 rw [H9]
 exact h.qs c hc
def fC (n:Nat) (w:World) (h1:(1:Int)<=n) (h2:(n:Int)<=64):
 Calls prog 32 #[.int .i64 (n:Int)] w λe w'=>e=.returned (.tuple #[.pointer (some ⟨w.heap.size+3,0,none⟩),.int .i64 0])/\CX w' w.heap.size (List.replicate n [])/\Below w.heap.size w w':=by
 have NS:Hid (∀ _:Unit,_):=λ_=>Ec 32 w (by decide) (by decide)
 have C:Hid (∀ w,_):=λw=>R4 w
 have hmk:=run_make_row' (P:=prog) 168 165 (.pointer none) 8 underlying168 Tryz.Mi rfl .i64 .i64 n (by omega) (by omega)
 obtain ⟨s,hs⟩:∃ s,w.heap.size=s:=⟨_,rfl⟩
 have HS:Hid (w.heap.size=s):=hs
 rw [hs] at NS ⊢
 rw [Pr (ca s) n] at hmk
 obtain ⟨T0,hT⟩:∃ T0,Cr (ca s) n 0=T0:=⟨_,rfl⟩
 have HT:Hid (Cr (ca s) n 0=T0):=hT
 rw [hT] at hmk
 clear hT hs
 go_enter func32,ntmps32
 go_wp2_with fail
 refine (NS.out ()).mono ?_
 rintro e w1 ⟨rfl,⟨W,sl⟩,f1,z1⟩
 have P0:Hid (CN w ((w1.alloc (.cells T0.toArray 165)).alloc (.cells #[.pointer (some ⟨s+1,0,none⟩),.slice (some ⟨s+2,0,none⟩) n n] 172)) s n 0 W):=by
  have b0:Below s w w1:=f1.below (by simp)
  refine ⟨(b0.alloc (by omega) _).alloc (by simp;omega) _,?_,?_,?_,λc hc=>by omega,by simp [ca,z1]⟩
  ·have:=AB.new (w1.alloc (.cells T0.toArray 165)) [.pointer (some ⟨s+1,0,none⟩),.slice (some ⟨s+2,0,none⟩) n n] 172
   rwa [World.size_alloc,z1] at this
  ·rw [HT.out]
   have:=(AB.new w1 T0 165).alloc (.cells #[.pointer (some ⟨s+1,0,none⟩),.slice (some ⟨s+2,0,none⟩) n n] 172)
   rwa [z1] at this
  ·exact ⟨(sl.sb.alloc _).alloc _,(sl.sg.alloc _).alloc _,sl.wd⟩
 clear sl f1 NS
 go_wp2
 simp only [z1] at *
 go_loopw [33] (λi wr=>∃ (k:Nat),(k:Int)<=n/\i=.int .i64 (k:Int)/\CN w wr s n k W) (λi _=>n-(intOf i).toNat)
 case atStart=>exact ⟨0,by omega,rfl,P0.out⟩
 case round=>
  obtain ⟨k,hk,rfl,P⟩:=hrel
  by_cases c:(k:Int)<n
  ·have C1:Hid (∀ _:Unit,_):=λ_=>C.out wr
   have ST:Hid (∀ w1:World,QB w1 wr.heap.size []->Fr wr.heap.size [] wr w1->w1.heap.size=wr.heap.size+2->CN w (w1.setCell ⟨s+2,k,none⟩ (.pointer (some ⟨wr.heap.size+1,0,none⟩))) s n (k+1) W):=λw1 q f z=>by
    rw [P.sz] at q ⊢
    exact oN P q f z
   have cb:Hid (∀ w1:World,Fr wr.heap.size [] wr w1->w1.cell? ⟨s+2,k,none⟩=some (.pointer none)/\w1.frozen? ⟨s+2,k,none⟩=false/\w1.cell? ⟨s+3,1,none⟩=some (.slice (some ⟨s+2,0,none⟩) n n)):=λw1 f=>by
    have b:=P.tb.AA f P.tb.lt (by simp)
    have b2:=P.st.AA f P.st.lt (by simp)
    exact ⟨by rw [b.cell,I3 _ _ _ _ (by omega),AHh (by omega)],b.free k,b2.cell 1⟩
   clear P P0
   go_wp2_with fail
   refine (C1.out ()).mono ?_
   rintro e w1 ⟨rfl,q,f,z⟩
   obtain ⟨c1,f1,s1⟩:=cb.out w1 f
   have N2:Hid _:=ST.out w1 q f z
   clear q f z
   go_wp2
   go_roundw
   case rel=>exact ⟨k+1,by omega,by go_num,N2.out⟩
   case measure=>simp [intOf];omega
  ·obtain rfl:k=n:=by omega
   have e:Hid _:=wP P (by omega) (by omega)
   clear P P0
   go_wp2
   go_ret2
   exact ⟨rfl,e.out⟩
end Go.Proofs.YtdlhlfpigcgapaaGreatDoor.Wrk

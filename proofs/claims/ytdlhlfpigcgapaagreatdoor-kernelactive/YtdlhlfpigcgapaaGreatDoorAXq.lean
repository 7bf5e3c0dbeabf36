import Derived.Test.YtdlhlfpigcgapaaGreatDoorAZal
import Derived.Test.YtdlhlfpigcgapaaGreatDoorAXf
import Derived.RangeFuncNested
import Derived.RangeFuncLeaves
import Derived.RangeFuncCalls
import Derived.OwnWalkIn
import Derived.TacticsInMore
import Derived.LoopIn
import Derived.Shelf.Abstract
import Derived.Shelf.RegionOpen
import Derived.Maps.OwnSet
set_option maxRecDepth 100000
set_option maxHeartbeats 16000000
set_option linter.unusedVariables false
set_option linter.unusedSimpArgs false
set_option linter.defProp false
namespace Go.Proofs.YtdlhlfpigcgapaaGreatDoor.Rqu
open Go.Proofs.Tryz
open Fif
open Go.RowKit
variable {B:Nat} {W:World}
structure EM (B:Nat) (p:World->Prop):Prop where
 new:∀ (W:World) (o:Obj),p W->p (W.alloc o)
 turn:∀ (W:World) (l:Nat) (o o':Obj),B<=l->W.heap[l]?=some o->o.isCells=false->p W->p (W.putObj l o')
def EM.both {p q:World->Prop} (h:EM B p) (k:EM B q):EM B λW=>p W/\q W:=
 ⟨λW o x=>⟨h.new W o x.1,k.new W o x.2⟩,λW l o o' a b c x=>⟨h.turn W l o o' a b c x.1,k.turn W l o o' a b c x.2⟩⟩
def EM.pure (B:Nat) (p:Prop):EM B λ_=>p:=⟨λ_ _ h=>h,λ_ _ _ _ _ _ _ h=>h⟩
def YJ (B:Nat) (W W':World):Prop:=W'.heap[B]?=W.heap[B]?/\W'.heap[B+1]?=W.heap[B+1]?
def Uc (B:Nat) (W:World):Prop:=(∃ o:Obj,W.heap[B]?=some o/\o.isCells=false)/\∃ o:Obj,W.heap[B+1]?=some o/\o.isCells=false
def Uc.lt (h:Uc B W):B+1<W.heap.size:=by
 obtain ⟨_,o,h,_⟩:=h
 exact (AEi.1 h).1
def Uc.AA {W':World} (h:Uc B W) (k:∀ (i:Nat) (o:Obj),o.isCells=false->W.heap[i]?=some o->W'.heap[i]?=some o):YJ B W W':=by
 obtain ⟨⟨o,h1,h2⟩,o',h3,h4⟩:=h
 exact ⟨(k _ o h2 h1).trans h1.symm,(k _ o' h4 h3).trans h3.symm⟩
def Rp (B:Nat) (G X:World->Prop) (W:World):Exit->Act->World->Prop
 | .normal,_,W'=>YJ B W W'/\G W'
 | .ret,_,W'=>YJ B W W'/\X W'
 | _,_,_=>False
def DT {P:Program} {g:Operand} {ps:Array Tmp} {assign body:Code} {Q:Exit->Act->World->Prop} {a:Act} {w:World} {gf:Nat} {fs:Array Value}
 (hg:a.eval g=.func (.func gf) fs #[]) (eg:∀ args w,(callFunc gf args).run P w=.ok (.enter gf args) w)
 (N:Nat) (xs:Nat->Array Value) (hps:∀ k,(xs k).size=ps.size) (I:Nat->World->Prop) (X:World->Prop)
 (aI:∀ k,EM w.heap.size (I k)) (aX:EM w.heap.size X) (h0:I 0 w) (a1:Nat->Act)
 (hit:∀ (l:Nat) (J:Nat->World->Prop) (Jx:World->Prop) (W:World),(∀ k W,J k W->I k W)->J 0 W->
  (∀ k W,k<N->J k W->YieldAt Fence.wide 2 P l (xs k) W λe W'=>(e=.returned (.bool true)/\J (k+1) W')\/(e=.returned (.bool false)/\Jx W'))->
  CallsIn Fence.wide 3 P gf (fs++#[.func (.yield l) #[] #[]]) W λe W'=>(∃ v,e=.returned v)/\(J N W'\/Jx W'))
 (hassign:∀ (l k:Nat) (W:World) (K:Act->World->Prop),k<N->K (a1 k) W->
  assign.wpIn (Fence.wide.inRound l) 2 P (Exit.then K (λ_ _ _=>False)) { tmps:=(ps.zip (xs k)).foldl (λt (p,v)=>t.setIfInBounds p v) a.tmps,defers:=[] } W)
 (hbody:∀ (l k:Nat) (W:World),k<N->Uc w.heap.size W->I k W->body.wpIn (Fence.wide.inRound l) 2 P (Rp w.heap.size (I (k+1)) X W) (a1 k) W)
 (hdone:∀ W:World,I N W->W.heap[w.heap.size]?=some (.deferred (some []))->Q .normal { a with defers:={ target:=.collected w.heap.size,args:=#[] }::a.defers } W)
 (hstop:∀ W:World,X W->W.heap[w.heap.size]?=some (.deferred (some []))->Code.ret.wpIn Fence.wide 4 P Q { a with defers:={ target:=.collected w.heap.size,args:=#[] }::a.defers } W):
 (Code.rangeFunc g ps assign body).wpIn Fence.wide 4 P Q a w:=by
 refine wpIn_rangeFunc λfn hfn=>?_
 obtain ⟨B,hB⟩:∃ B,w.heap.size=B:=⟨_,rfl⟩
 rw [hB] at aI aX hbody hdone hstop
 let R:LoopState->Option Code->Loop:=λst pe=>{ state:=st,pending:=pe,fn:=fn,tmps:=a.tmps,params:=ps,assign:=assign,body:=body,defers:=B }
 have start:(Instr.enterLoop fn a.tmps ps assign body none).run P w=.ok (B+1,[{ target:=.collected B,args:=#[] }]) ((w.alloc (.deferred (some []))).alloc (.loop (R .ready none))):=by
  rw [<- hB]
  exact (run_enterLoop_outer fn a.tmps ps assign body).trans (by simp [R,hB])
 have d1:((w.alloc (.deferred (some []))).alloc (.loop (R .ready none))).heap[B]?=some (.deferred (some [])):=by
  rw [<- hB]
  exact (Below.heap_alloc _ _ _ (by simp)).trans (World.alloc_heap_new w _)
 have l1:((w.alloc (.deferred (some []))).alloc (.loop (R .ready none))).heap[B+1]?=some (.loop (R .ready none)):=by
  have:=World.alloc_heap_new (w.alloc (.deferred (some []))) (.loop (R .ready none))
  rwa [World.size_alloc,hB] at this
 have i1:=(aI 0).new _ (.loop (R .ready none)) ((aI 0).new _ (.deferred (some [])) h0)
 generalize (w.alloc (.deferred (some []))).alloc (.loop (R .ready none))=W1 at start d1 l1 i1
 refine ⟨B+1,_,W1,{ target:=.fn (.func gf) #[],args:=fs++#[.func (.yield (B+1)) #[] #[]] },W1,gf,fs++#[.func (.yield (B+1)) #[] #[]],W1,start,?_,?_,?_,(λ_=>by decide),?_⟩
 ·simp only [resolve,hg]
  simp [go_sem]
 ·intro _ _
  trivial
 ·simp [invoke,go_sem,eg]
 ·refine (hit (B+1) (λk W=>I k W/\W.heap[B+1]?=some (.loop (R .ready none))/\W.heap[B]?=some (.deferred (some [])))
   (λW=>X W/\W.heap[B+1]?=some (.loop (R .done (some .ret)))/\W.heap[B]?=some (.deferred (some []))) W1 (λ_ _ h=>h.1) ⟨i1,l1,d1⟩ ?_).mono ?_
  ·rintro k W hk ⟨ik,lk,dk⟩
   have hlt:B+1<W.heap.size:=(AEi.1 lk).1
   have hy:=run_yield (P:=P) (args:=xs k) lk (hps k)
   refine ⟨fn,_,assign,body,hy,roundIn_of_wpIn hfn (hassign (B+1) k W _ hk ⟨_,run_beginRound lk rfl,?_⟩)⟩
   have lb:(W.putObj (B+1) (.loop (R .busy none))).heap[B+1]?=some (.loop (R .busy none)):=World.putObj_heap_same hlt
   have db:(W.putObj (B+1) (.loop (R .busy none))).heap[B]?=some (.deferred (some [])):=(World.putObj_heap_other (by omega)).trans dk
   refine wpIn_mono (hbody (B+1) k (W.putObj (B+1) (.loop (R .busy none))) hk ⟨⟨_,db,rfl⟩,_,lb,rfl⟩ ((aI k).turn _ _ _ _ (by omega) lk rfl ik)) ?_
   intro e a3 W3 hp
   cases e with
   | normal=>
    obtain ⟨⟨e1,e2⟩,ig⟩:=hp
    rw [lb] at e2
    rw [db] at e1
    have l3:B+1<W3.heap.size:=(AEi.1 e2).1
    exact ⟨_,_,run_endRound none e2,.inl ⟨rfl,(aI (k+1)).turn _ _ _ _ (by omega) e2 rfl ig,World.putObj_heap_same l3,(World.putObj_heap_other (by omega)).trans e1⟩⟩
   | ret=>
    obtain ⟨⟨e1,e2⟩,ig⟩:=hp
    rw [lb] at e2
    rw [db] at e1
    have l3:B+1<W3.heap.size:=(AEi.1 e2).1
    exact ⟨_,_,run_endRound (some .ret) e2,.inr ⟨rfl,aX.turn _ _ _ _ (by omega) e2 rfl ig,World.putObj_heap_same l3,(World.putObj_heap_other (by omega)).trans e1⟩⟩
   | exit _=>exact hp.elim
   | goto _=>exact hp.elim
   | panic _=>exact hp.elim
   | outgrown=>exact hp.elim
  ·rintro e W2 ⟨⟨v,rfl⟩,⟨i2,l2,d2⟩ | ⟨x2,l2,d2⟩⟩
   ·exact ⟨none,_,run_endLoop l2 (by simp [R]),hdone _ ((aI N).turn _ _ _ _ (by omega) l2 rfl i2) ((World.putObj_heap_other (by omega)).trans d2)⟩
   ·exact ⟨some .ret,_,run_endLoop l2 (by simp [R]),hstop _ (aX.turn _ _ _ _ (by omega) l2 rfl x2) ((World.putObj_heap_other (by omega)).trans d2)⟩
end Go.Proofs.YtdlhlfpigcgapaaGreatDoor.Rqu
namespace Go.Proofs.YtdlhlfpigcgapaaGreatDoor.Qm
open Go.Proofs.Tryz
open Fif Rqu
open Fm
variable {k m:Nat} {n p:Int}
abbrev AK:=List (Int×Int)
def lv (X:AK) (k:Nat):List Int:=(X.filter λx=>x.1==(k:Int)).map Prod.snd
def ids (X:AK):List Int:=X.map Prod.snd
def Cd (X:AK):Nat->List Int
 | 0=>[]
 | k+1=>Cd X k++lv X (7-k)
def cat (X:AK):List Int:=Cd X 8
def del (X:AK) (n:Int):AK:=X.filter λx=>x.2 !=n
structure Ok (m:Nat) (X:AK):Prop where
 nd:(ids X).Nodup
 le:X.length<=m
 rg:∀ x∈X,0<=x.1/\x.1<8
def YK (m:Nat):Ok m []:=⟨by simp [ids],by simp,λ_ h=>by simp at h⟩
def D3 (X:AK) (k:Nat) (n:Int):n∈lv X k↔((k:Int),n)∈X:=by
 unfold lv
 simp
def DF (X:AK) (n:Int):n∈ids X↔∃ p,(p,n)∈X:=by
 unfold ids
 simp
def Io:∀ {X:AK},(ids X).Nodup->∀ {p q n:Int},(p,n)∈X->(q,n)∈X->p=q
 | [],_,_,_,_,h,_=>by simp at h
 | x::r,hn,p,q,n,h1,h2=>by
  unfold ids at hn
  rw [List.map_cons,AF7] at hn
  simp only [AD0] at h1 h2
  rcases h1 with h1 | h1 <;> rcases h2 with h2 | h2
  ·have:=h1.trans h2.symm
   simp only [AEj] at this
   exact this.1
  ·exact absurd ((DF r n).2 ⟨q,h2⟩) (by rw [<- h1] at hn;exact hn.1)
  ·exact absurd ((DF r n).2 ⟨p,h1⟩) (by rw [<- h2] at hn;exact hn.1)
  ·exact Io hn.2 h1 h2
def Lq {X:AK} (h:(ids X).Nodup) (k:Nat):(lv X k).Nodup:=
 List.Nodup.sublist (List.Sublist.map _ List.filter_sublist) h
def Mb (X:AK) (k:Nat):(lv X k).length<=X.length:=by
 unfold lv
 rw [ADz]
 exact ADq _ _
def Ud (X:AK) (p:Nat) (n:Int) (k:Nat):lv (X++[((p:Int),n)]) k=if k=p then lv X k++[n] else lv X k:=by
 unfold lv
 rw [AEQ,AEg]
 by_cases h:k=p
 ·subst h
  simp
 ·have:((p:Int)==(k:Int))=false:=by simp;omega
  simp [h,this]
def YL (X:AK) (n:Int) (k:Nat):lv (del X n) k=wo (lv X k) n:=by
 unfold lv del wo
 rw [AFk,AEa,AEa]
 congr 1
 apply AEN
 intro x _
 simp [AF2]
def Lr (X:AK) (p n:Int):ids (X++[(p,n)])=ids X++[n]:=by simp [ids]
def Ke (X:AK) (n:Int):ids (del X n)=wo (ids X) n:=by
 unfold ids del wo
 rw [AFk]
 rfl
def YM (X:AK) (n:Int):(del X n).length<=X.length:=ADq _ _
def YN {X:AK} (h:n∈ids X):(del X n).length<X.length:=by
 obtain ⟨p,hp⟩:=(DF X n).1 h
 apply Classical.byContradiction
 intro c
 have e:(del X n).length=X.length:=by have:=YM X n;omega
 have:=(List.length_filter_eq_length_iff.1 e) (p,n) hp
 simp at this
def OR (X:AK) (n:Int):n∉ids (del X n):=by rw [Ke];exact V3 _ _
def RM {X:AK} (h:n∉ids X):del X n=X:=by
 unfold del
 rw [AEL]
 intro x hx
 simp
 intro e
 exact h ((DF X n).2 ⟨x.1,by rw [<- e];exact hx⟩)
def OS {X:AK} (h:Ok m X) (hp:0<=p/\p<8) (hn:n∉ids X) (hl:X.length<m):Ok m (X++[(p,n)]):=by
 refine ⟨?_,by simp;omega,λx hx=>?_⟩
 ·rw [Lr,AFF]
  exact ⟨h.nd,by simp,λx hx y hy e=>by simp at hy;exact hn (hy ▸ e ▸ hx)⟩
 ·rcases ADi.1 hx with hx | hx
  ·exact h.rg x hx
  ·simp at hx
   subst hx
   exact hp
def RO {X:AK} (h:Ok m X) (n:Int):Ok m (del X n):=
 ⟨by rw [Ke];exact Ln _ _ h.nd,ADd (YM X n) h.le,λx hx=>h.rg x (AD9.1 hx).1⟩
def EN (m:Nat) (X:AK) (p n:Int):Int:=if p<0\/8<=p then 2 else if n∈ids X then 6 else if m<=X.length then 5 else 0
def FQ (m:Nat) (X:AK) (p n:Int):AK:=if p<0\/8<=p then X else if n∈ids X then X else if m<=X.length then X else X++[(p,n)]
def Ce (X:AK) (n:Int):Int:=((X.find? λx=>x.2==n).map Prod.fst).getD 0
def EO (X:AK) (n:Int):Int:=if n∈ids X then 0 else 4
def FS (X:AK) (n:Int):AK:=if n∈ids X then del X n++[(Ce X n,n)] else X
def Jd (X:AK):Int:=(cat X).headD 0
def Hr (X:AK):Int:=if X=[] then 12 else 0
def FU (X:AK):AK:=if X=[] then X else FS X (Jd X)
def OT {X:AK} (h:(ids X).Nodup) (hm:(p,n)∈X):Ce X n=p:=by
 unfold Ce
 cases e:X.find? (λx=>x.2==n) with
 | none=>
  have:=ADw.1 e (p,n) hm
  simp at this
 | some x=>
  have h1:=AEo e
  have h2:=AEG e
  simp at h1
  have h3:(x.1,n)∈X:=by rw [<- h1];exact h2
  exact Io h h3 hm
def RP {X:AK} (h:n∉ids X):Ce X n=0:=by
 unfold Ce
 have:X.find? (λx=>x.2==n)=none:=by
  rw [ADw]
  intro x hx e
  simp at e
  exact h ((DF X n).2 ⟨x.1,by rw [<- e];exact hx⟩)
 rw [this]
 rfl
def YO {X:AK} (h:Ok m X) (n:Int):0<=Ce X n/\Ce X n<8:=by
 by_cases c:n∈ids X
 ·obtain ⟨p,hp⟩:=(DF X n).1 c
  rw [OT h.nd hp]
  exact h.rg _ hp
 ·rw [RP c]
  omega
def YP {X:AK} (h:Ok m X) (c:n∈ids X):∃ k:Nat,k<8/\Ce X n=k/\n∈lv X k/\∀ j,j≠k->n∉lv X j:=by
 obtain ⟨p,hp⟩:=(DF X n).1 c
 have hr:=h.rg _ hp
 simp only at hr
 refine ⟨p.toNat,by omega,by rw [OT h.nd hp];omega,(D3 _ _ _).2 (by rw [show ((p.toNat:Nat):Int)=p by omega];exact hp),λj hj hm=>?_⟩
 have:=Io h.nd ((D3 _ _ _).1 hm) hp
 omega
def kD {X:AK} (c:n∉ids X) (k:Nat):n∉lv X k:=λh=>c ((DF X n).2 ⟨_,(D3 _ _ _).1 h⟩)
def YQ {X:AK} (h:Ok m X) (n:Int):Ok m (FS X n):=by
 unfold FS
 split
 ·rename_i c
  exact OS (RO h n) (YO h n) (OR X n) (by have:=YN c;have:=h.le;omega)
 ·exact h
def YR {X:AK} (h:Ok m X):Ok m (FU X):=by
 unfold FU
 split
 ·exact h
 ·exact YQ h _
def uU {X:AK} (h:Ok m X) (hk:n∈lv X k) (j:Nat):lv (FS X n) j=if j=k then wo (lv X j) n++[n] else lv X j:=by
 have c:n∈ids X:=(DF X n).2 ⟨_,(D3 _ _ _).1 hk⟩
 have e:Ce X n=k:=OT h.nd ((D3 _ _ _).1 hk)
 unfold FS
 rw [AHi c,e,Ud,YL]
 by_cases d:j=k
 ·rw [AHi d,AHi d]
 ·rw [AHh d,AHh d]
  apply Kd
  intro hm
  have:=Io h.nd ((D3 _ _ _).1 hm) ((D3 _ _ _).1 hk)
  omega
def Gr (X:AK) (k:Nat):Prop:=k<8/\lv X k≠[]/\∀ j,k<j->j<8->lv X j=[]
def Ue {X:AK} (h:Ok m X) (hX:X≠[]):∃ k,Gr X k:=by
 have key:∀ d,d<=8->(∃ k,Gr X k)\/∀ j,8-d<=j->j<8->lv X j=[]:=by
  intro d
  induction d with
  | zero=>intro _;exact Or.inr λj a b=>by omega
  | succ d ih=>
   intro hd
   rcases ih (by omega) with g | g
   ·exact Or.inl g
   ·by_cases c:lv X (8-(d+1))=[]
    ·refine Or.inr λj a b=>?_
     by_cases e:j=8-(d+1)
     ·rw [e];exact c
     ·exact g j (by omega) b
    ·exact Or.inl ⟨8-(d+1),by omega,c,λj a b=>g j (by omega) b⟩
 rcases key 8 (ADW _) with g | g
 ·exact g
 ·exfalso
  obtain ⟨x,hx⟩:=List.exists_mem_of_ne_nil X hX
  have hr:=h.rg x hx
  have:x.2∈lv X x.1.toNat:=(D3 _ _ _).2 (by rw [show ((x.1.toNat:Nat):Int)=x.1 by omega];exact hx)
  rw [g _ (by omega) (by omega)] at this
  simp at this
def uV (k:Nat):lv [] k=[]:=rfl
def YS {X:AK} (h:∀ j,8-k<=j->j<8->lv X j=[]) (hk:k<=8):Cd X k=[]:=by
 induction k with
 | zero=>rfl
 | succ k ih=>
  unfold Cd
  rw [ih (λj a b=>h j (by omega) b) (by omega),h (7-k) (by omega) (by omega)]
  rfl
def PL (X:AK) (k d:Nat):∃ Y,Cd X (k+d)=Cd X k++Y:=by
 induction d with
 | zero=>exact ⟨[],by simp⟩
 | succ d ih=>
  obtain ⟨Y,e⟩:=ih
  refine ⟨Y++lv X (7-(k+d)),?_⟩
  have q:Cd X (k+(d+1))=Cd X (k+d)++lv X (7-(k+d)):=rfl
  rw [q,e,AEs]
def uW {X:AK} (g:Gr X k):∃ Y,cat X=lv X k++Y:=by
 obtain ⟨hk,_,he⟩:=g
 obtain ⟨Y,e⟩:=PL X (8-k) k
 rw [show 8-k+k=8 by omega] at e
 refine ⟨Y,?_⟩
 unfold cat
 rw [e,show 8-k=(7-k)+1 by omega]
 unfold Cd
 rw [YS (k:=7-k) (λj a b=>he j (by omega) b) (by omega),show 7-(7-k)=k by omega]
 rfl
def RU {X:AK} (g:Gr X k):Jd X=(lv X k).headD 0:=by
 obtain ⟨Y,e⟩:=uW g
 unfold Jd
 rw [e]
 obtain ⟨x,r,h⟩:=AF4 g.2.1
 rw [h]
 rfl
def AB2 {X:AK} (g:Gr X k):X≠[]:=λe=>by subst e;exact g.2.1 rfl
def uX {X:AK} (g:Gr X k):Jd X∈lv X k:=by
 rw [RU g]
 obtain ⟨x,r,h⟩:=AF4 g.2.1
 rw [h]
 simp
def uY {X:AK} (h:Ok m X) (g:Gr X k) (j:Nat):lv (FU X) j=if j=k then tL (lv X j) else lv X j:=by
 unfold FU
 rw [AHh (AB2 g),uU h (uX g)]
 by_cases c:j=k
 ·subst c
  rw [AHi rfl,AHi rfl,RU g]
  have nd:=Lq h.nd j
  obtain ⟨x,r,e⟩:=AF4 g.2.1
  rw [e] at nd ⊢
  rw [show List.headD (x::r) 0=x from rfl,UX r x nd]
  rfl
 ·rw [AHh c,AHh c]
def Uf {X:AK} (h:∀ x∈X,0<=x.1/\x.1<8):(lv X 0).length+(lv X 1).length+(lv X 2).length+(lv X 3).length+(lv X 4).length+(lv X 5).length+(lv X 6).length+(lv X 7).length=X.length:=by
 induction X with
 | nil=>rfl
 | cons x r ih=>
  have h1:=ih λy hy=>h y (ADV _ hy)
  have h2:=h x (by simp)
  obtain ⟨p,n⟩:=x
  simp only at h2
  have e:∀ k:Nat,(lv ((p,n)::r) k).length=(lv r k).length+if p=(k:Int) then 1 else 0:=by
   intro k
   unfold lv
   rw [AE4]
   by_cases c:p=(k:Int)
   ·simp [c]
   ·simp [c]
  simp only [e,ADy]
  obtain rfl | rfl | rfl | rfl | rfl | rfl | rfl | rfl:p=0\/p=1\/p=2\/p=3\/p=4\/p=5\/p=6\/p=7:=by omega
  all_goals simp
  all_goals omega
def Ay (X:AK):Nat->Nat
 | 0=>0
 | k+1=>Ay X k+(lv X k).length
def Ug {X:AK} (h:∀ x∈X,0<=x.1/\x.1<8):Ay X 8=X.length:=by
 rw [<- Uf h]
 simp [Ay]
def OU {X:AK} (h:∀ x∈X,0<=x.1/\x.1<8):(cat X).length=X.length:=by
 rw [<- Uf h]
 simp [cat,Cd]
 omega
def uZ {X:AK} (h:∀ x∈X,0<=x.1/\x.1<8) (hk:k<=8):(Cd X k).length<=X.length:=by
 obtain ⟨Y,e⟩:=PL X k (8-k)
 rw [show k+(8-k)=8 by omega] at e
 have:=OU h
 unfold cat at this
 rw [e,ADa] at this
 omega
def Ey {X:AK} (h:∀ x∈X,0<=x.1/\x.1<8) (hk:k<=8):Ay X k<=X.length:=by
 rw [<- Ug h]
 have:∀ d,Ay X k<=Ay X (k+d):=by
  intro d
  induction d with
  | zero=>exact ADW _
  | succ d ih=>exact ADd ih (Nat.le_add_right _ _)
 have:=this (8-k)
 rwa [show k+(8-k)=8 by omega] at this
end Go.Proofs.YtdlhlfpigcgapaaGreatDoor.Qm
namespace Go.Proofs.YtdlhlfpigcgapaaGreatDoor.Rqu
open Go.Proofs.Tryz
open Fif
open Go.ChangeShapes Go.WideShapes Go.ChangeAt Go.RowKit
open Fm Qm
variable {W W' w w' w1 wr:World} {f:Int->Option Nat} {B D b c cap g k m n s:Nat} {ds:List Deferred} {X:AK} {id:Int} {cs:List Value} {G L:List Int} {S:List Nat} {t t0 t1 t2:TypeId} {v0 v1 v2:Value} {p:Addr}
attribute [local go_sem] Oper.semAt_some
def pt (s k:Nat):Value:=.pointer (some ⟨s+2+2*k,0,none⟩)
def pts (s:Nat):List Value:=[pt s 0,pt s 1,pt s 2,pt s 3,pt s 4,pt s 5,pt s 6,pt s 7]
def vA (s k:Nat) (h:k<8):(pts s)[k]?=some (pt s k):=by
 obtain rfl | rfl | rfl | rfl | rfl | rfl | rfl | rfl:k=0\/k=1\/k=2\/k=3\/k=4\/k=5\/k=6\/k=7:=by omega
 all_goals rfl
def zn (s:Nat):List Nat:=List.range' s 17
def Mc (s k:Nat):k∈zn s↔s<=k/\k<s+17:=by unfold zn;rw [AEt]
structure PQ (w:World) (s m:Nat) (X:AK):Prop where
 sb:AB w s (pts s) 227
 lv:∀ k,k<8->∃ f r,Q w (s+2+2*k) (s+1+2*k) m f r (lv X k)
 ok:Ok m X
def PQ.hi (h:PQ w s m X):s+17<=w.heap.size:=by
 obtain ⟨f,r,q⟩:=h.lv 7 (by omega)
 have:=q.sb.lt
 omega
def PQ.AA {B:Nat} {S:List Nat} {w w':World} {s m:Nat} {X:AK} (h:PQ w s m X) (f:Fr B S w w') (hB:s+17<=B) (hS:∀ k,s<=k->k<s+17->k∉S):PQ w' s m X:=
 ⟨h.sb.AA f (by omega) (hS s (by omega) (by omega)),λk hk=>by
  obtain ⟨a,r,q⟩:=h.lv k hk
  exact ⟨a,r,q.AA f ⟨by omega,by omega⟩ ⟨hS _ (by omega) (by omega),hS _ (by omega) (by omega)⟩⟩,h.ok⟩
def PQ.below (h:PQ w s m X) (f:Below w.heap.size w w'):PQ w' s m X:=
 h.AA (Fr.AE f) h.hi (λ_ _ _=>by simp)
def PQ.m1 {w:World} {s m:Nat} {X:AK} (h:PQ w s m X):(1:Int)<=m/\(m:Int)<=1024:=by
 obtain ⟨f,r,q⟩:=h.lv 0 (by omega)
 have:=q.rg.m1
 have:=q.rg.m2
 omega
def PQ.cell {w:World} {s m:Nat} {X:AK} (h:PQ w s m X) (k:Nat) (hk:k<8):w.cell? ⟨s,k,none⟩=some (pt s k):=by rw [h.sb.cell k,vA s k hk]
def Ez {N:Nat} (h:N<=w.heap.size) (hB:N<=B):EM B λW=>Below N w W:=
 ⟨λW o x=>x.alloc (ADd h x.size) o,λW l o o' hl _ _ x=>⟨x.os,x.tape,x.output,by simpa using x.size,λk hk=>(World.putObj_heap_other (by omega)).trans (x.block k hk)⟩⟩
def dx (s k:Nat):Array Value:=#[.int .i64 ((7-k:Nat):Int),pt s (7-k)]
def Hs (l:Nat) (J:Nat->World->Prop) (Jx:World->Prop) (W:World) (hJ:∀ k W,J k W->∀ j,j<8->W.cell? ⟨s,j,none⟩=some (pt s j)) (h0:J 0 W)
 (hY:∀ k W,k<8->J k W->YieldAt Fence.wide 2 prog l (dx s k) W λe W'=>(e=.returned (.bool true)/\J (k+1) W')\/(e=.returned (.bool false)/\Jx W')):
 CallsIn Fence.wide 3 prog 268 (#[.pointer (some ⟨s,0,none⟩)]++#[.func (.yield l) #[] #[]]) W λe W'=>(∃ v,e=.returned v)/\(J 8 W'\/Jx W'):=by
 refine callsIn_of_wp func268 rfl trivial ?_ rfl
 simp only [ntmps268,AEY,ADy,AEh,Nat.reduceAdd,Nat.reduceSub,AEp,AEq,AFG,ADx,ADv,ADo]
 gi_wp2
 gi_loopw [4] (λi wr=>(∃ p k:Nat,p+k=7/\i=.int .i64 (p:Int)/\J k wr)\/(i=.int .i64 (-1)/\J 8 wr)) (λi _=>(intOf i+1).toNat)
 case atStart=>exact Or.inl ⟨7,0,rfl,rfl,h0⟩
 case round=>
  rcases hrel with ⟨p,k,hp,rfl,hj⟩ | ⟨rfl,hj⟩
  ·have hc:=hJ k wr hj p (by omega)
   obtain ⟨fn,tmps,assign,body,hy,hR⟩:=hY k wr (by omega) hj
   rw [show dx s k=#[.int .i64 (p:Int),pt s p] by unfold dx;rw [show 7-k=p by omega]] at hy
   unfold pt at hc hy
   have hp2:(p:Int)<=7:=by omega
   have E:Hid (∀ W',J (k+1) W'->∀ q:Int,q=(p:Int)-1->(∃ p k:Nat,p+k=7/\Value.int .i64 q=.int .i64 (p:Int)/\J k W')\/(Value.int .i64 q=.int .i64 (-1)/\J 8 W')):=λW' h q e=>by
    by_cases c:p=0
    ·refine Or.inr ⟨by rw [e,c];rfl,?_⟩
     rw [show k+1=8 by omega] at h
     exact h
    ·exact Or.inl ⟨p-1,k+1,by omega,by rw [e];congr 1;omega,h⟩
   clear hp
   gi_wp2
   refine hR.mono ?_
   rintro e W3 (⟨rfl,hJ3⟩ | ⟨rfl,hJx3⟩)
   ·gi_wp2
    go_roundw
    case rel=>exact E.out _ hJ3 _ (by go_num)
    case measure=>simp [intOf]
   ·gi_wp2
    refine bodyPost_ret (results_none rfl _ _ _) rfl ?_
    exact ⟨⟨_,rfl⟩,.inr hJx3⟩
  ·gi_wp2
   go_end0
   exact ⟨⟨_,rfl⟩,.inl hj⟩
def EU (B b:Nat) (cs:List Value) (t:TypeId):EM B λW=>AB W b cs t:=
 ⟨λW o h=>h.alloc o,λW l o o' _ ho hc h=>by
  by_cases e:b=l
  ·subst e
   rw [show W.heap[b]?=_ from h] at ho
   cases ho
   cases hc
  ·exact (World.putObj_heap_other e).trans h⟩
def mU {l:Nat} (h:AB W b cs t) (hk:W.heap[l]?=some (.deferred (some ds))) (o:Obj):AB (W.putObj l o) b cs t:=
 (EU l b cs t).turn W l _ o (ADW _) hk rfl h
def Md (h:YJ B W W') (hp:p.block<B) (v:Value):YJ B W (W'.setCell p v):=
 ⟨(Below.heap_setCell _ _ _ _ (by omega)).trans h.1,(Below.heap_setCell _ _ _ _ (by omega)).trans h.2⟩
def LF (w W:World) (v0 v1:Value) (t0 t1:TypeId):Prop:=Below w.heap.size w W/\AB W w.heap.size [v0] t0/\AB W (w.heap.size+1) [v1] t1
def Kf (hB:w.heap.size<=B):EM B λW=>LF w W v0 v1 t0 t1:=
 (Ez (ADW _) hB).both ((EU B _ _ _).both (EU B _ _ _))
def Uh (h:LF w W v0 v1 t0 t1) (u0 u1:Value):LF w ((W.setCell ⟨w.heap.size,0,none⟩ u0).setCell ⟨w.heap.size+1,0,none⟩ u1) u0 u1 t0 t1:=by
 obtain ⟨hb,b0,b1⟩:=h
 refine ⟨(hb.setCell (p:=⟨w.heap.size,0,none⟩) (ADW _) _).setCell (p:=⟨w.heap.size+1,0,none⟩) (by simp) _,?_,?_⟩
 ·exact (b0.set 0 u0).other (p:=⟨w.heap.size+1,0,none⟩) (by simp) _
 ·exact (b1.other (p:=⟨w.heap.size,0,none⟩) (by simp) _).set 0 u1
def Ui (h:LF w W v0 v1 t0 t1) (hD:w.heap.size<=D) (hK:W.heap[D]?=some (.deferred (some ds))) (o:Obj):LF w (W.putObj D o) v0 v1 t0 t1:=
 (Kf hD).turn W D _ o (ADW _) hK rfl h
def PP {q:Addr} {u0 u1:Value} {o:Obj} (hK:W.heap[D]?=some o) (hp:p.block≠D) (hq:q.block≠D):((W.setCell p u0).setCell q u1).heap[D]?=some o:=
 (Below.heap_setCell _ _ _ _ (Ne.symm hq)).trans ((Below.heap_setCell _ _ _ _ (Ne.symm hp)).trans hK)
def Uj (w:World) (v0 v1:Value) (t0 t1:TypeId):LF w ((w.alloc (.cells #[v0] t0)).alloc (.cells #[v1] t1)) v0 v1 t0 t1:=by
 refine ⟨((Below.refl _ w).alloc (ADW _) _).alloc (by simp) _,?_,?_⟩
 ·exact (AB.new w [v0] t0).alloc _
 ·have:=AB.new (w.alloc (.cells #[v0] t0)) [v1] t1
  rwa [World.size_alloc] at this
def JF (w:World) (h:PQ w s m X) (hX:X=[]):
 Calls prog 254 #[.pointer (some ⟨s,0,none⟩)] w λe w'=>e=.returned (.tuple #[.pointer none,.int .i64 12])/\Below w.heap.size w w':=by
 have HP:Hid (PQ w s m X):=h
 have HX:Hid (X=[]):=hX
 clear h hX
 refine (callsIn_wide (n:=4)).1 ?_
 refine callsIn_of_wp_marks func254 rfl trivial ?_ rfl
 simp only [ntmps254,AEY,ADy,AEh,Nat.reduceAdd,Nat.reduceSub,AEp,AEq,AFG,ADx,ADv,ADo]
 gi_wp2
 refine DT (gf:=268) (fs:=#[.pointer (some ⟨s,0,none⟩)]) rfl (enters_of func268 (by kernel_rfl) rfl) 8 (dx s) (λ_=>rfl)
  (λ_ W=>LF w W (.pointer none) (.int .i64 0) 165 24) (λ_=>False) (λ_=>Kf (by simp;omega)) (EM.pure _ _) (Uj _ _ _ _ _) (λk=>{ tmps:=#[.pointer (some ⟨s,0,none⟩),undef,.pointer (some ⟨w.heap.size,0,none⟩),.pointer (some ⟨w.heap.size+1,0,none⟩),undef,pt s (7-k),.pointer (some ⟨s,0,none⟩),.bool false,.pointer (some ⟨s,0,none⟩),.func (.func 268) #[.pointer (some ⟨s,0,none⟩)] #[],.int .i64 ((7-k:Nat):Int),pt s (7-k),undef,undef,undef,undef],defers:=[] }) (λl J Jx W hJ h0 hY=>Hs l J Jx W (λk W hj j hj8=>(HP.out.below (hJ k W hj).1).cell j hj8) h0 hY) ?assign ?body ?done ?stop
 case assign=>
  intro l k W K hk hK
  unfold dx
  gi_wp2
  exact hK
 case body=>
  intro l k W hk hsz hI
  obtain ⟨f,r,q⟩:=(HP.out.below hI.1).lv (7-k) (by omega)
  have C:Hid (∀ _:Unit,_):=λ_=>DA W q
  rw [HX.out,uV] at C
  unfold pt
  clear q
  gi_wp2_with fail
  refine ⟨trivial,(CallsIn.inRound l (callsIn_wide.2 (C.out ()))).mono ?_⟩
  rintro e w' ⟨rfl,rfl⟩
  gi_wp2
  exact ⟨⟨rfl,rfl⟩,hI⟩
 case done=>
  rintro W hI hK
  rw [World.size_alloc,World.size_alloc] at hK ⊢
  have c0:=hI.2.1.cell 0
  have c1:=hI.2.2.cell 0
  have f0:=hI.2.1.free 0
  have f1:=hI.2.2.free 0
  have K2:=PP (p:=⟨w.heap.size,0,none⟩) (q:=⟨w.heap.size+1,0,none⟩) (u0:=.pointer none) (u1:=.int .i64 12) hK (by simp;omega) (by simp)
  have I2:=Ui (Uh hI (.pointer none) (.int .i64 12)) (by omega) K2 (.deferred none)
  have e0:=I2.2.1.cell 0
  have e1:=I2.2.2.cell 0
  have HB:=I2.1
  clear hI I2
  gi_wp2
  refine ⟨by simp,.inl ⟨_,_,rfl,run_takeDeferred K2,?_⟩⟩
  refine ⟨.tuple #[.pointer none,.int .i64 12],?_,rfl,HB⟩
  simp [results,Tryz.f254,go_sem,e0,e1]
 case stop=>
  intro W h _
  exact h.elim
def JG (w:World) (h:PQ w s m X) (hG:Gr X g):
 Calls prog 254 #[.pointer (some ⟨s,0,none⟩)] w λe w'=>e=.returned (.tuple #[pt s g,.int .i64 0])/\Below w.heap.size w w':=by
 have HP:Hid (PQ w s m X):=h
 have HG:Hid (Gr X g):=hG
 clear h hG
 refine (callsIn_wide (n:=4)).1 ?_
 refine callsIn_of_wp_marks func254 rfl trivial ?_ rfl
 simp only [ntmps254,AEY,ADy,AEh,Nat.reduceAdd,Nat.reduceSub,AEp,AEq,AFG,ADx,ADv,ADo]
 gi_wp2
 refine DT (gf:=268) (fs:=#[.pointer (some ⟨s,0,none⟩)]) rfl (enters_of func268 (by kernel_rfl) rfl) 8 (dx s) (λ_=>rfl)
  (λk W=>LF w W (.pointer none) (.int .i64 0) 165 24/\g+k<=7) (λW=>LF w W (pt s g) (.int .i64 0) 165 24) (λ_=>(Kf (by simp;omega)).both (EM.pure _ _)) (Kf (by simp;omega)) ⟨Uj _ _ _ _ _,by have:=HG.out.1;omega⟩ (λk=>{ tmps:=#[.pointer (some ⟨s,0,none⟩),undef,.pointer (some ⟨w.heap.size,0,none⟩),.pointer (some ⟨w.heap.size+1,0,none⟩),undef,pt s (7-k),.pointer (some ⟨s,0,none⟩),.bool false,.pointer (some ⟨s,0,none⟩),.func (.func 268) #[.pointer (some ⟨s,0,none⟩)] #[],.int .i64 ((7-k:Nat):Int),pt s (7-k),undef,undef,undef,undef],defers:=[] }) (λl J Jx W hJ h0 hY=>Hs l J Jx W (λk W hj j hj8=>(HP.out.below (hJ k W hj).1.1).cell j hj8) h0 hY) ?assign ?body ?done ?stop
 case assign=>
  intro l k W K hk hK
  unfold dx
  gi_wp2
  exact hK
 case body=>
  intro l k W hk hsz hI
  obtain ⟨hI,hgk⟩:=hI
  obtain ⟨f,r,q⟩:=(HP.out.below hI.1).lv (7-k) (by omega)
  have C:Hid (∀ _:Unit,_):=λ_=>DA W q
  have c0:=hI.2.1.cell 0
  have c1:=hI.2.2.cell 0
  have f0:=hI.2.1.free 0
  have f1:=hI.2.2.free 0
  have HI:Hid (LF w W (.pointer none) (.int .i64 0) 165 24):=hI
  rw [World.size_alloc,World.size_alloc]
  unfold pt
  clear q hsz hI
  by_cases c:g+k=7
  ·have e:7-k=g:=by omega
   have hl:(0:Int)<(lv X g).length:=by have:=AEv.2 HG.out.2.1;omega
   rw [e] at C ⊢
   generalize (lv X g).length=n at *
   clear e c hgk
   gi_wp2_with fail
   refine ⟨trivial,(CallsIn.inRound l (callsIn_wide.2 (C.out ()))).mono ?_⟩
   rintro e w' ⟨rfl,rfl⟩
   gi_wp2
   exact ⟨Md (Md ⟨rfl,rfl⟩ (by simp;omega) _) (by simp) _,Uh HI.out _ _⟩
  ·rw [HG.out.2.2 (7-k) (by omega) (by omega)] at C
   have hn:g+(k+1)<=7:=by omega
   clear hgk c
   gi_wp2_with fail
   refine ⟨trivial,(CallsIn.inRound l (callsIn_wide.2 (C.out ()))).mono ?_⟩
   rintro e w' ⟨rfl,rfl⟩
   gi_wp2
   exact ⟨⟨rfl,rfl⟩,HI.out,hn⟩
 case done=>
  rintro W ⟨_,hI⟩ hK
  omega
 case stop=>
  intro W hI hK
  rw [World.size_alloc,World.size_alloc] at hK ⊢
  have I2:=Ui hI (by omega) hK (.deferred none)
  have e0:=I2.2.1.cell 0
  have e1:=I2.2.2.cell 0
  have HB:=I2.1
  clear hI I2
  gi_wp2
  refine ⟨by simp,.inl ⟨_,_,rfl,run_takeDeferred hK,?_⟩⟩
  refine ⟨.tuple #[pt s g,.int .i64 0],?_,rfl,HB⟩
  simp [results,Tryz.f254,go_sem,e0,e1]
attribute [local go_sem] Oper.semAt_some
structure D6 (w W:World) (v0 v1 v2:Value) (t0 t1 t2:TypeId):Prop where
 bel:Below w.heap.size w W
 b0:AB W w.heap.size [v0] t0
 b1:AB W (w.heap.size+1) [v1] t1
 b2:AB W (w.heap.size+1+1) [v2] t2
def Kg (hB:w.heap.size<=B):EM B λW=>D6 w W v0 v1 v2 t0 t1 t2:=
 ⟨λW o h=>⟨(Ez (ADW _) hB).new W o h.bel,h.b0.alloc o,h.b1.alloc o,h.b2.alloc o⟩,
  λW l o o' a b c h=>⟨(Ez (ADW _) hB).turn W l o o' a b c h.bel,(EU B _ _ _).turn W l o o' a b c h.b0,(EU B _ _ _).turn W l o o' a b c h.b1,(EU B _ _ _).turn W l o o' a b c h.b2⟩⟩
def D6.drewN (h:D6 w W v0 v1 v2 t0 t1 t2) (n:Nat):D6 w (W.drewN n) v0 v1 v2 t0 t1 t2:=⟨⟨h.bel.os,h.bel.tape,h.bel.output,h.bel.size,h.bel.block⟩,h.b0,h.b1,h.b2⟩
def D6.set {w W:World} {v0 v1 v2:Value} {t0 t1 t2:TypeId} (h:D6 w W v0 v1 v2 t0 t1 t2) (u1 u2:Value):D6 w ((W.setCell ⟨w.heap.size+1,0,none⟩ u1).setCell ⟨w.heap.size+1+1,0,none⟩ u2) v0 u1 u2 t0 t1 t2:=by
 refine ⟨(h.bel.setCell (p:=⟨w.heap.size+1,0,none⟩) (by simp) _).setCell (p:=⟨w.heap.size+1+1,0,none⟩) (by simp;omega) _,?_,?_,?_⟩
 ·exact (h.b0.other (p:=⟨w.heap.size+1,0,none⟩) (by simp) _).other (p:=⟨w.heap.size+1+1,0,none⟩) (by simp;omega) _
 ·exact (h.b1.set 0 u1).other (p:=⟨w.heap.size+1+1,0,none⟩) (by simp) _
 ·exact (h.b2.other (p:=⟨w.heap.size+1,0,none⟩) (by simp) _).set 0 u2
def D6.new (w:World) (v0 v1 v2:Value) (t0 t1 t2:TypeId):D6 w (((w.alloc (.cells #[v0] t0)).alloc (.cells #[v1] t1)).alloc (.cells #[v2] t2)) v0 v1 v2 t0 t1 t2:=by
 refine ⟨(((Below.refl _ w).alloc (ADW _) _).alloc (by simp) _).alloc (by simp;omega) _,?_,?_,?_⟩
 ·exact ((AB.new w [v0] t0).alloc _).alloc _
 ·have:=AB.new (w.alloc (.cells #[v0] t0)) [v1] t1
  rw [World.size_alloc] at this
  exact this.alloc _
 ·have:=AB.new ((w.alloc (.cells #[v0] t0)).alloc (.cells #[v1] t1)) [v2] t2
  rwa [World.size_alloc,World.size_alloc] at this
def D6.fin (h:D6 w W v0 v1 v2 t0 t1 t2) (hD:w.heap.size<=D) (hK:W.heap[D]?=some (.deferred (some ds))) (o:Obj):D6 w (W.putObj D o) v0 v1 v2 t0 t1 t2:=
 (Kg hD).turn W D _ o (ADW _) hK rfl h
def YT (n:Int) (w:World) (h:PQ w s m X) (hn:n∉ids X):
 Calls prog 262 #[.pointer (some ⟨s,0,none⟩),.int .i64 n] w λe w'=>e=.returned (.tuple #[.int .i64 0,.bool false])/\Below w.heap.size w w':=by
 have HP:Hid (PQ w s m X):=h
 have HN:Hid (∀ k,n∉lv X k):=kD hn
 clear h hn
 refine (callsIn_wide (n:=4)).1 ?_
 refine callsIn_of_wp_marks func262 rfl trivial ?_ rfl
 simp only [ntmps262,AEY,ADy,AEh,Nat.reduceAdd,Nat.reduceSub,AEp,AEq,AFG,ADx,ADv,ADo]
 gi_wp2
 refine DT (gf:=268) (fs:=#[.pointer (some ⟨s,0,none⟩)]) rfl (enters_of func268 (by kernel_rfl) rfl) 8 (dx s) (λ_=>rfl)
  (λ_ W=>D6 w W (.int .i64 n) (.int .i64 0) (.bool false) 3 3 4) (λ_=>False) (λ_=>Kg (by simp;omega)) (EM.pure _ _) (D6.new _ _ _ _ _ _ _) (λk=>{ tmps:=#[.pointer (some ⟨s,0,none⟩),.int .i64 n,undef,.pointer (some ⟨w.heap.size,0,none⟩),.pointer (some ⟨w.heap.size+1,0,none⟩),.pointer (some ⟨w.heap.size+1+1,0,none⟩),.int .i64 ((7-k:Nat):Int),pt s (7-k),.pointer (some ⟨s,0,none⟩),.bool false,.pointer (some ⟨s,0,none⟩),.func (.func 268) #[.pointer (some ⟨s,0,none⟩)] #[],.int .i64 ((7-k:Nat):Int),pt s (7-k),undef,undef,undef,undef],defers:=[] }) (λl J Jx W hJ h0 hY=>Hs l J Jx W (λk W hj j hj8=>(HP.out.below (hJ k W hj).bel).cell j hj8) h0 hY) ?assign ?body ?done ?stop
 case assign=>
  intro l k W K hk hK
  unfold dx
  gi_wp2
  exact hK
 case body=>
  intro l k W hk hsz hI
  obtain ⟨f,r,q⟩:=(HP.out.below hI.bel).lv (7-k) (by omega)
  have C:Hid (∀ _:Unit,_):=λ_=>Hn n W q
  rw [AHk (HN.out (7-k))] at C
  have c0:=hI.b0.cell 0
  have HI:Hid (D6 w W (.int .i64 n) (.int .i64 0) (.bool false) 3 3 4):=hI
  unfold pt
  clear q hI hsz
  gi_wp2_with fail
  refine ⟨trivial,(CallsIn.inRound l (callsIn_wide.2 (C.out ()))).mono ?_⟩
  rintro e w' ⟨rfl,d,rfl⟩
  gi_wp2
  exact ⟨⟨rfl,rfl⟩,HI.out.drewN d⟩
 case done=>
  rintro W hI hK
  rw [World.size_alloc,World.size_alloc,World.size_alloc] at hK ⊢
  have c0:=hI.b1.cell 0
  have c1:=hI.b2.cell 0
  have f0:=hI.b1.free 0
  have f1:=hI.b2.free 0
  have K2:=PP (p:=⟨w.heap.size+1,0,none⟩) (q:=⟨w.heap.size+1+1,0,none⟩) (u0:=.int .i64 0) (u1:=.bool false) hK (by simp <;> omega) (by simp <;> omega)
  have I2:=(hI.set (.int .i64 0) (.bool false)).fin (by omega) K2 (.deferred none)
  have e0:=I2.b1.cell 0
  have e1:=I2.b2.cell 0
  have HB:=I2.bel
  clear hI I2
  gi_wp2
  refine ⟨by simp,.inl ⟨_,_,rfl,run_takeDeferred K2,?_⟩⟩
  refine ⟨.tuple #[.int .i64 0,.bool false],?_,rfl,HB⟩
  simp [results,Tryz.f262,go_sem,e0,e1]
 case stop=>
  intro W h _
  exact h.elim
def dJ (n:Int) (w:World) (h:PQ w s m X) (hg:g<8) (h1:n∈lv X g) (h2:∀ j,j≠g->n∉lv X j):
 Calls prog 262 #[.pointer (some ⟨s,0,none⟩),.int .i64 n] w λe w'=>e=.returned (.tuple #[.int .i64 (g:Int),.bool true])/\Below w.heap.size w w':=by
 have HP:Hid (PQ w s m X):=h
 have H1:Hid (n∈lv X g):=h1
 have H2:Hid (∀ j,j≠g->n∉lv X j):=h2
 clear h h1 h2
 refine (callsIn_wide (n:=4)).1 ?_
 refine callsIn_of_wp_marks func262 rfl trivial ?_ rfl
 simp only [ntmps262,AEY,ADy,AEh,Nat.reduceAdd,Nat.reduceSub,AEp,AEq,AFG,ADx,ADv,ADo]
 gi_wp2
 refine DT (gf:=268) (fs:=#[.pointer (some ⟨s,0,none⟩)]) rfl (enters_of func268 (by kernel_rfl) rfl) 8 (dx s) (λ_=>rfl)
  (λk W=>D6 w W (.int .i64 n) (.int .i64 0) (.bool false) 3 3 4/\g+k<=7) (λW=>D6 w W (.int .i64 n) (.int .i64 (g:Int)) (.bool true) 3 3 4) (λ_=>(Kg (by simp;omega)).both (EM.pure _ _)) (Kg (by simp;omega)) ⟨D6.new _ _ _ _ _ _ _,by omega⟩ (λk=>{ tmps:=#[.pointer (some ⟨s,0,none⟩),.int .i64 n,undef,.pointer (some ⟨w.heap.size,0,none⟩),.pointer (some ⟨w.heap.size+1,0,none⟩),.pointer (some ⟨w.heap.size+1+1,0,none⟩),.int .i64 ((7-k:Nat):Int),pt s (7-k),.pointer (some ⟨s,0,none⟩),.bool false,.pointer (some ⟨s,0,none⟩),.func (.func 268) #[.pointer (some ⟨s,0,none⟩)] #[],.int .i64 ((7-k:Nat):Int),pt s (7-k),undef,undef,undef,undef],defers:=[] }) (λl J Jx W hJ h0 hY=>Hs l J Jx W (λk W hj j hj8=>(HP.out.below (hJ k W hj).1.bel).cell j hj8) h0 hY) ?assign ?body ?done ?stop
 case assign=>
  intro l k W K hk hK
  unfold dx
  gi_wp2
  exact hK
 case body=>
  intro l k W hk hsz hI
  obtain ⟨hI,hgk⟩:=hI
  obtain ⟨f,r,q⟩:=(HP.out.below hI.bel).lv (7-k) (by omega)
  have C:Hid (∀ _:Unit,_):=λ_=>Hn n W q
  have c0:=hI.b0.cell 0
  have c1:=hI.b1.cell 0
  have c2:=hI.b2.cell 0
  have f1:=hI.b1.free 0
  have f2:=hI.b2.free 0
  have HI:Hid (D6 w W (.int .i64 n) (.int .i64 0) (.bool false) 3 3 4):=hI
  rw [World.size_alloc,World.size_alloc,World.size_alloc]
  unfold pt
  clear q hsz hI
  by_cases c:g+k=7
  ·have e:7-k=g:=by omega
   rw [e] at C ⊢
   rw [AHj H1.out] at C
   clear e c hgk
   gi_wp2_with fail
   refine ⟨trivial,(CallsIn.inRound l (callsIn_wide.2 (C.out ()))).mono ?_⟩
   rintro e w' ⟨rfl,d,rfl⟩
   gi_wp2
   exact ⟨Md (Md ⟨rfl,rfl⟩ (by simp <;> omega) _) (by simp <;> omega) _,(HI.out.drewN d).set _ _⟩
  ·rw [AHk (H2.out (7-k) (by omega))] at C
   have hn:g+(k+1)<=7:=by omega
   clear hgk c
   gi_wp2_with fail
   refine ⟨trivial,(CallsIn.inRound l (callsIn_wide.2 (C.out ()))).mono ?_⟩
   rintro e w' ⟨rfl,d,rfl⟩
   gi_wp2
   exact ⟨⟨rfl,rfl⟩,HI.out.drewN d,hn⟩
 case done=>
  rintro W ⟨_,hI⟩ hK
  omega
 case stop=>
  intro W hI hK
  rw [World.size_alloc,World.size_alloc,World.size_alloc] at hK ⊢
  have I2:=hI.fin (by omega) hK (.deferred none)
  have e0:=I2.b1.cell 0
  have e1:=I2.b2.cell 0
  have HB:=I2.bel
  clear hI I2
  gi_wp2
  refine ⟨by simp,.inl ⟨_,_,rfl,run_takeDeferred hK,?_⟩⟩
  refine ⟨.tuple #[.int .i64 (g:Int),.bool true],?_,rfl,HB⟩
  simp [results,Tryz.f262,go_sem,e0,e1]
def Lt (n:Int) (w:World) (h:PQ w s m X):
 Calls prog 262 #[.pointer (some ⟨s,0,none⟩),.int .i64 n] w λe w'=>e=.returned (.tuple #[.int .i64 (Ce X n),.bool (decide (n∈ids X))])/\Below w.heap.size w w':=by
 by_cases c:n∈ids X
 ·obtain ⟨k,hk,e,h1,h2⟩:=YP h.ok c
  rw [e,AHj c]
  exact dJ n w h hk h1 h2
 ·rw [RP c,AHk c]
  exact YT n w h c
def mV (s k:Nat) (h:k<8) (w:World):(Instr.index 225 (.agg #[pt s 0,pt s 1,pt s 2,pt s 3,pt s 4,pt s 5,pt s 6,pt s 7]) (.int .i64 (k:Int))).run prog w=.ok (pt s k) w:=by
 obtain rfl | rfl | rfl | rfl | rfl | rfl | rfl | rfl:k=0\/k=1\/k=2\/k=3\/k=4\/k=5\/k=6\/k=7:=by omega
 all_goals rfl
def Lu (w:World) (h:PQ w s m X):
 Calls prog 99 #[.pointer (some ⟨s,0,none⟩)] w λe w'=>e=.returned (.int .i64 (X.length:Int))/\w'=w:=by
 have c0:=h.cell 0 (by omega)
 have c1:=h.cell 1 (by omega)
 have c2:=h.cell 2 (by omega)
 have c3:=h.cell 3 (by omega)
 have c4:=h.cell 4 (by omega)
 have c5:=h.cell 5 (by omega)
 have c6:=h.cell 6 (by omega)
 have c7:=h.cell 7 (by omega)
 have HL:Hid (∀ k,k<8->Ay X (k+1)<=1024/\Ay X k<=1024):=λk hk=>by
  have:=Ey h.ok.rg (k:=k+1) (by omega)
  have:=Ey h.ok.rg (k:=k) (by omega)
  have:=h.ok.le
  have:=h.m1
  omega
 have HE:Hid (Ay X 8=X.length):=Ug h.ok.rg
 have C:Hid (∀ k,k<8->Calls prog 103 #[pt s k] w λe w'=>e=.returned (.int .i64 ((lv X k).length:Int))/\w'=w):=λk hk=>by
  obtain ⟨f,r,q⟩:=h.lv k hk
  exact DA w q
 rw [<- HE.out]
 clear h HE
 go_enter func99,ntmps99
 go_wp2
 go_loop [3,12] (λc i=>∃ k:Nat,(k:Int)<=8/\c=.int .i64 (Ay X k:Nat)/\i=.int .i64 (k:Int)) (λ_ i=>8-(intOf i).toNat)
 case atStart=>exact ⟨0,by omega,rfl,rfl⟩
 case round=>
  obtain ⟨k,hk,rfl,rfl⟩:=hrel
  by_cases c:(k:Int)<8
  ·have hC:=C.out k (by omega)
   obtain ⟨b1,b2⟩:=HL.out k (by omega)
   have ec:Ay X (k+1)=Ay X k+(lv X k).length:=rfl
   obtain ⟨x,hx⟩:∃ x,Ay X k=x:=⟨_,rfl⟩
   obtain ⟨y,hy⟩:∃ y,(lv X k).length=y:=⟨_,rfl⟩
   rw [hx,hy] at ec
   rw [ec] at b1
   rw [hy] at hC
   rw [hx]
   have E:Hid (Ay X (k+1)=x+y):=ec
   clear ec hx hy
   have gx:(x:Int)+y<=1024:=by omega
   have hix:=mV s k (by omega) w
   clear c0 c1 c2 c3 c4 c5 c6 c7 b1 b2
   go_wp2_with fail
   refine hC.mono ?_
   rintro e w' ⟨rfl,rfl⟩
   go_wp2
   go_round
   case rel=>exact ⟨k+1,by omega,by rw [E.out];go_num,by go_num⟩
   case measure=>simp [intOf];omega
  ·obtain rfl:k=8:=by omega
   go_wp2
   go_ret
   exact ⟨rfl,rfl⟩
attribute [local go_sem] Oper.semAt_some
structure LG (w:World) (b:Nat) (W:World) (g cap:Nat) (G:List Int):Prop where
 bel:Below w.heap.size w W
 box:AB W b [.slice (some ⟨g,0,none⟩) G.length cap] 122
 own:W.ownsRow w.heap.size 3 1 (.slice (some ⟨g,0,none⟩) G.length cap) G.length (G.map (Value.int .i64))
def LG.AC (h:LG w b W g cap G):∃ cur:Array Value,w.heap.size<=g/\W.heap[g]?=some (.cells cur 3 (0,0)):=by
 rcases h.own.2 with ⟨e,_⟩ | ⟨g',c',cur,e,hb,hg,_⟩
 ·cases e
 ·simp only [Value.slice.injEq,AEB,Addr.mk.injEq] at e
  obtain ⟨⟨rfl,_⟩,_⟩:=e
  exact ⟨cur,hb,hg⟩
def Gm {base:Nat} {xs:List Value} (h:W.ownsRow base 3 1 (.slice (some ⟨g,0,none⟩) n cap) n xs) (e:W'.heap[g]?=W.heap[g]?):W'.ownsRow base 3 1 (.slice (some ⟨g,0,none⟩) n cap) n xs:=by
 refine ⟨h.1,?_⟩
 rcases h.2 with hn | ⟨g',c',cur,hv,hb,hg,rest⟩
 ·exact Or.inl hn
 ·have e2:=hv
  simp only [Value.slice.injEq,AEB,Addr.mk.injEq] at e2
  obtain ⟨⟨rfl,_⟩,_⟩:=e2
  exact Or.inr ⟨g,c',cur,hv,hb,e.trans hg,rest⟩
def YU (hB:w.heap.size<=B):EM B λW=>∃ g cap,LG w b W g cap G:=
 ⟨λW o ⟨g,cap,h⟩=>⟨g,cap,(Ez (ADW _) hB).new W o h.bel,h.box.alloc o,by
  obtain ⟨cur,_,hg⟩:=h.AC
  exact Gm h.own (Below.heap_alloc _ _ _ (lt_of_block hg))⟩,
  λW l o o' a b c ⟨g,cap,h⟩=>⟨g,cap,(Ez (ADW _) hB).turn W l o o' a b c h.bel,(EU B _ _ _).turn W l o o' a b c h.box,by
   obtain ⟨cur,_,hg⟩:=h.AC
   refine Gm h.own (World.putObj_heap_other ?_)
   intro e
   subst e
   rw [hg] at b
   cases b
   cases c⟩⟩
def Xt {w3:World} (h:LG w b W g cap G) (hb:Below W.heap.size W w3) {g2:Nat} (o2:w3.ownsRow W.heap.size 3 1 (.slice (some ⟨g2,0,none⟩) L.length L.length) L.length (L.map (Value.int .i64))) (hl:G.length+L.length<=2000) (hwb:w.heap.size<=b) (ty:TypeId):
 ∃ g' cap' w4,(Builtin.append_ #[122,122] ty #[.slice (some ⟨g,0,none⟩) G.length cap,.slice (some ⟨g2,0,none⟩) L.length L.length]).run prog w3=.ok (.slice (some ⟨g',0,none⟩) (G.length+L.length) cap') w4/\
  w4.cell? ⟨b,0,none⟩=some (.slice (some ⟨g,0,none⟩) G.length cap)/\w4.frozen? ⟨b,0,none⟩=false/\LG w b (w4.setCell ⟨b,0,none⟩ (.slice (some ⟨g',0,none⟩) (G.length+L.length) cap')) g' cap' (G++L)/\
  ∀ (k:Nat) (o:Obj),o.isCells=false->W.heap[k]?=some o->(w4.setCell ⟨b,0,none⟩ (.slice (some ⟨g',0,none⟩) (G.length+L.length) cap')).heap[k]?=some o:=by
 obtain ⟨cur,hg1,hg⟩:=h.AC
 have Zx:=lt_of_block hg
 obtain ⟨i0,hi,hz0,hz1,hz2⟩:=info_parts Tryz.Dw
 have s0:=h.bel.size
 have s3:=hb.size
 have own3:w3.ownsRow w.heap.size 3 1 (.slice (some ⟨g,0,none⟩) G.length cap) G.length (G.map (Value.int .i64)):=Gm h.own (hb.block g Zx)
 have box3:AB w3 b [.slice (some ⟨g,0,none⟩) G.length cap] 122:=h.box.AA (Fr.AE hb) h.box.lt (by simp)
 have hc:∀ j u,(L.map (Value.int .i64))[j]?=some u->w3.cell? ((⟨g2,0,none⟩:Addr).add j)=some u:=λj u hj=>by
  have:=o2.cellAt j (by have:=(ADc.1 hj).1;simpa using this)
  rw [hj] at this
  have e:(⟨g2,0,none⟩:Addr).add j=⟨g2,j,none⟩:=by unfold Addr.add;split <;> simp_all
  rw [e]
  exact this
 obtain ⟨v',w4,hrun,r1,r2,r3⟩:=run_append_own (P:=prog) w3 w.heap.size 122 ty 3 i0 (.int .i64 0) 1 8 underlying122 hi hz0 hz1 hz2 rfl (by decide) _ G.length _ own3 ⟨g2,0,none⟩ L.length L.length (L.map (Value.int .i64)) (by simp) hc (Ig L) (by unfold maxLen;omega) (by omega) (by omega)
 have bne:b≠g:=by
  intro e
  subst e
  have:=(show W.heap[b]?=_ from h.box).symm.trans hg
  simp at this
 rcases r1.2 with ⟨e,_⟩ | ⟨g',cap',cur',rfl,hb',hg',rest⟩
 ·exact absurd (r3.1 e).1 (by simp)
 have box4:AB w4 b [.slice (some ⟨g,0,none⟩) G.length cap] 122:=(r2.block b box3.lt (by simp [Value.ownBlock];exact bne)).trans box3
 have bne':b≠g':=by
  intro e
  subst e
  have:=(show w4.heap[b]?=_ from box4).symm.trans hg'
  simp at this
 refine ⟨g',cap',w4,hrun,box4.cell 0,box4.free 0,⟨?_,?_,?_⟩,?_⟩
 ·exact ((h.bel.trans (hb.mono s0)).grown r2 (by omega) (λk e=>by simp [Value.ownBlock] at e;omega)).setCell (p:=⟨b,0,none⟩) hwb _
 ·rw [ADa]
  exact box4.set 0 _
 ·rw [ADa,AEg]
  exact Gm r1 (Below.heap_setCell _ _ _ _ (Ne.symm bne'))
 ·intro k o ho hk
  have klt:=lt_of_block hk
  have kb:k≠b:=by
   intro e
   subst e
   rw [show W.heap[k]?=_ from h.box] at hk
   cases hk
   cases ho
  have kg:k≠g:=by
   intro e
   subst e
   rw [hg] at hk
   cases hk
   cases ho
  rw [Below.heap_setCell _ _ _ _ kb,r2.block k (by omega) (by simp [Value.ownBlock];exact kg),hb.block k klt]
  exact hk
def EV {F:Fence} {P:Program} {ops:Array Oper} {o:Oper} {a:Act} {K:Act->World->Prop} {Q:Exit->Act->World->Prop} {E:Prop} {v u v':Value}
 (hg:o.guard=none) (s x:Operand) (t:TypeId) (hop:o.op=Op.call { callee:=Callee.builtin Builtin.append,args:=#[s,x],argTypes:=#[t,t] }) (hs:a.eval s=v) (hx:a.eval x=u)
 (hrun:(Builtin.append_ #[t,t] o.type #[v,u]).run P w=.ok v' w') (hK:K (a.put o.dst v') w'):
 if Region.wanted o (yielded ops a.tmps)=true then Oper.wpIn F n P o a w K Q else E:=by
 rw [AHi (by simp [Region.wanted,hg])]
 unfold Oper.wpIn
 refine ⟨?_,?_⟩
 ·simp [Oper.about,hop,resolve,Target.leads,Sem.run_pure]
 ·rw [Oper.semAt_plain F _ _ (by rw [hop];intro c hc';cases hc')]
  simp [execOp,hop,resolve,invoke,builtin,hs,hx,hrun,Result.andThen]
  exact hK
def YV (w:World) (h:PQ w s m X):
 Calls prog 215 #[.pointer (some ⟨s,0,none⟩)] w λe w'=>∃ v,e=.returned v/\w'.ownsRow w.heap.size 3 1 v (cat X).length ((cat X).map (Value.int .i64))/\Below w.heap.size w w':=by
 have HP:Hid (PQ w s m X):=h
 have CN:Hid (∀ _:Unit,_):=λ_=>Lu w h
 have hl:(X.length:Int)<=1024:=by have:=h.ok.le;have:=h.m1;omega
 obtain ⟨Z,hZ,hmk⟩:∃ Z:Array Value,Hid (Z.size=X.length)/\∀ w:World,(Instr.makeSlice 122 (.int .i64 0) (.int .i64 (X.length:Int))).run prog w=.ok (.slice (some ⟨w.heap.size,0,none⟩) 0 X.length) (w.alloc (.cells Z 3)):=by
  obtain ⟨i0,hi,hz0,hz1,hz2⟩:=info_parts Tryz.Dw
  refine ⟨madeCells (Value.int .i64 0).cells (X.length*i0.size),by rw [size_madeCells,hz1,AEx];exact rfl,λw=>?_⟩
  have:=run_make (P:=prog) w 122 3 i0 (.int .i64 0) underlying122 hi hz0 .i64 .i64 0 X.length (AFJ _) (by omega) (by rw [hz2];omega) (by omega)
  simpa using this
 have hmx:prog.follows .mixedOrders=true:=by kernel_rfl
 generalize hn:X.length=N at *
 have HN:Hid (X.length=N):=hn
 clear h hn
 refine (callsIn_wide (n:=4)).1 ?_
 refine callsIn_of_wp_marks func215 rfl trivial ?_ rfl
 simp only [ntmps215,AEY,ADy,AEh,Nat.reduceAdd,Nat.reduceSub,AEp,AEq,AFG,ADx,ADv,ADo]
 gi_wp2_with fail
 refine ⟨trivial,(callsIn_wide.2 (CN.out ())).mono ?_⟩
 rintro e w' ⟨rfl,rfl⟩
 gi_wp2
 obtain ⟨w,rfl⟩:∃ w,w=w':=⟨_,rfl⟩
 have G0:∃ g cap,LG w (w.heap.size+1) ((w.alloc (.cells Z 3)).alloc (.cells #[.slice (some ⟨w.heap.size,0,none⟩) 0 N] 122)) g cap (Cd X 0):=by
  refine ⟨w.heap.size,N,((Below.refl _ w).alloc (ADW _) _).alloc (by simp) _,?_,?_⟩
  ·have:=AB.new (w.alloc (.cells Z 3)) [.slice (some ⟨w.heap.size,0,none⟩) 0 N] 122
   rwa [World.size_alloc] at this
  ·refine ⟨rfl,Or.inr ⟨w.heap.size,N,Z,rfl,ADW _,?_,AFQ _,by unfold maxLen;omega,by rw [hZ.out,AEx],by simp [Cd]⟩⟩
   exact (Below.heap_alloc _ _ _ (by simp)).trans (World.alloc_heap_new w _)
 refine DT (gf:=268) (fs:=#[.pointer (some ⟨s,0,none⟩)]) rfl (enters_of func268 (by kernel_rfl) rfl) 8 (dx s) (λ_=>rfl)
  (λk W=>∃ g cap,LG w (w.heap.size+1) W g cap (Cd X k)) (λ_=>False) (λ_=>YU (by simp;omega)) (EM.pure _ _) G0
  (λk=>{ tmps:=#[.pointer (some ⟨s,0,none⟩),undef,.slice none 0 0,.pointer (some ⟨w.heap.size+1,0,none⟩),undef,pt s (7-k),.pointer (some ⟨s,0,none⟩),.bool false,.pointer (some ⟨s,0,none⟩),.int .i64 (N:Int),.slice (some ⟨w.heap.size,0,none⟩) 0 N,.pointer (some ⟨s,0,none⟩),.func (.func 268) #[.pointer (some ⟨s,0,none⟩)] #[],.int .i64 ((7-k:Nat):Int),pt s (7-k),undef,undef,undef,undef,undef],defers:=[] })
  (λl J Jx W hJ h0 hY=>Hs l J Jx W (λk W hj j hj8=>by obtain ⟨g,cap,q⟩:=hJ k W hj;exact (HP.out.below q.bel).cell j hj8) h0 hY) ?assign ?body ?done ?stop
 case assign=>
  intro l k W K hk hK
  unfold dx
  gi_wp2
  exact hK
 case body=>
  intro l k W hk hsz hI
  obtain ⟨g,cap,hI⟩:=hI
  obtain ⟨f,r,q⟩:=(HP.out.below hI.bel).lv (7-k) (by omega)
  have hle:(Cd X k).length+(lv X (7-k)).length<=2000:=by
   have:=uZ HP.out.ok.rg (k:=k+1) (by omega)
   have:=HN.out
   rw [show Cd X (k+1)=Cd X k++lv X (7-k) from rfl,ADa] at *
   omega
  have C:Hid (∀ _:Unit,_):=λ_=>mQ W.drew (q.heap (w1:=W.drew) rfl)
  have AP:Hid (∀ (w3:World) (g2:Nat),Below W.heap.size W.drew w3->w3.ownsRow W.heap.size 3 1 (.slice (some ⟨g2,0,none⟩) (lv X (7-k)).length (lv X (7-k)).length) (lv X (7-k)).length ((lv X (7-k)).map (Value.int .i64))->_):=λw3 g2 hb o2=>Xt hI (w3:=w3) ⟨hb.os,hb.tape,hb.output,hb.size,hb.block⟩ o2 hle (by omega) 122
  have c0:=hI.box.cell 0
  rw [World.size_alloc,World.size_alloc] at hsz ⊢
  have HW:Hid (w.heap.size+1+1+1<W.heap.size):=hsz.lt
  have HT:Hid (Uc (w.heap.size+1+1) W):=hsz
  unfold pt
  rw [show Cd X (k+1)=Cd X k++lv X (7-k) from rfl]
  clear q hI hle hsz G0
  obtain ⟨G,hG⟩:∃ G,Cd X k=G:=⟨_,rfl⟩
  obtain ⟨L,hL⟩:∃ L,lv X (7-k)=L:=⟨_,rfl⟩
  rw [hG,hL] at AP
  rw [hL] at C
  rw [hG] at c0
  rw [hG,hL]
  clear hG hL
  generalize G.length=gl at *
  generalize L.length=ll at *
  gi_wp2
  refine wpIn_region_any (by assumption) ?_
  try (change wpAnyIn _ _ _ _ _ _ _ _ _ (World.drew _))
  refine wpAnyIn_ready (rs:=[0,1]) (by kernel_rfl) (by simp) (AllReadyIn.cons rfl (λK hK=>?_) (AllReadyIn.cons rfl (λK hK=>?_) AllReadyIn.nil))
  ·go_simp
   refine hK _ _ ?_
   clear hK K
   refine wpAnyIn_ready (rs:=[1]) (by kernel_rfl) (by simp) (AllReadyIn.cons rfl (λK hK=>?_) AllReadyIn.nil)
   go_simp
   refine hK _ _ ?_
   clear hK K
   refine wpAnyIn_ready (rs:=[2]) (by kernel_rfl) (by simp) (AllReadyIn.cons rfl (λK hK=>?_) AllReadyIn.nil)
   go_simp
   refine ⟨trivial,?_⟩
   refine (CallsIn.inRound l (callsIn_wide.2 (C.out ()))).mono ?_
   rintro e w3 ⟨v,g2,rfl,rfl,o3,b3⟩
   obtain ⟨g',cap',w4,hrun,hc4,hf4,L4,T4⟩:=AP.out w3 g2 b3 o3
   have c03:=(b3.cell (p:=⟨w.heap.size+1,0,none⟩) (by have:=HW.out;show w.heap.size+1<W.heap.size;omega)).trans c0
   refine hK _ _ ?_
   clear hK K
   refine wpAnyIn_ready (rs:=[3]) (by kernel_rfl) (by simp) (AllReadyIn.cons rfl (λK hK=>?_) AllReadyIn.nil)
   refine EV rfl (.tmp 15) (.tmp 17) 122 rfl (by simp [Act.eval]) (by simp [Act.eval]) hrun ?_
   refine hK _ _ ?_
   clear hK K
   refine wpAnyIn_ready (rs:=[4]) (by kernel_rfl) (by simp) (AllReadyIn.cons rfl (λK hK=>?_) AllReadyIn.nil)
   go_simp
   refine hK _ _ ?_
   clear hK K
   refine wpAnyIn_done (by kernel_rfl) ?_ _
   gi_wp2
   exact ⟨HT.out.AA T4,_,_,L4⟩
  ·go_simp
   refine hK _ _ ?_
   clear hK K
   refine wpAnyIn_ready (rs:=[0,2]) (by kernel_rfl) (by simp) (AllReadyIn.cons rfl (λK hK=>?_) (AllReadyIn.cons rfl (λK hK=>?_) AllReadyIn.nil))
   ·go_simp
    refine hK _ _ ?_
    clear hK K
    refine wpAnyIn_ready (rs:=[2]) (by kernel_rfl) (by simp) (AllReadyIn.cons rfl (λK hK=>?_) AllReadyIn.nil)
    go_simp
    refine ⟨trivial,?_⟩
    refine (CallsIn.inRound l (callsIn_wide.2 (C.out ()))).mono ?_
    rintro e w3 ⟨v,g2,rfl,rfl,o3,b3⟩
    obtain ⟨g',cap',w4,hrun,hc4,hf4,L4,T4⟩:=AP.out w3 g2 b3 o3
    have c03:=(b3.cell (p:=⟨w.heap.size+1,0,none⟩) (by have:=HW.out;show w.heap.size+1<W.heap.size;omega)).trans c0
    refine hK _ _ ?_
    clear hK K
    refine wpAnyIn_ready (rs:=[3]) (by kernel_rfl) (by simp) (AllReadyIn.cons rfl (λK hK=>?_) AllReadyIn.nil)
    refine EV rfl (.tmp 15) (.tmp 17) 122 rfl (by simp [Act.eval]) (by simp [Act.eval]) hrun ?_
    refine hK _ _ ?_
    clear hK K
    refine wpAnyIn_ready (rs:=[4]) (by kernel_rfl) (by simp) (AllReadyIn.cons rfl (λK hK=>?_) AllReadyIn.nil)
    go_simp
    refine hK _ _ ?_
    clear hK K
    refine wpAnyIn_done (by kernel_rfl) ?_ _
    gi_wp2
    exact ⟨HT.out.AA T4,_,_,L4⟩
   ·go_simp
    refine ⟨trivial,?_⟩
    refine (CallsIn.inRound l (callsIn_wide.2 (C.out ()))).mono ?_
    rintro e w3 ⟨v,g2,rfl,rfl,o3,b3⟩
    obtain ⟨g',cap',w4,hrun,hc4,hf4,L4,T4⟩:=AP.out w3 g2 b3 o3
    have c03:=(b3.cell (p:=⟨w.heap.size+1,0,none⟩) (by have:=HW.out;show w.heap.size+1<W.heap.size;omega)).trans c0
    refine hK _ _ ?_
    clear hK K
    refine wpAnyIn_ready (rs:=[0]) (by kernel_rfl) (by simp) (AllReadyIn.cons rfl (λK hK=>?_) AllReadyIn.nil)
    go_simp
    refine hK _ _ ?_
    clear hK K
    refine wpAnyIn_ready (rs:=[3]) (by kernel_rfl) (by simp) (AllReadyIn.cons rfl (λK hK=>?_) AllReadyIn.nil)
    refine EV rfl (.tmp 15) (.tmp 17) 122 rfl (by simp [Act.eval]) (by simp [Act.eval]) hrun ?_
    refine hK _ _ ?_
    clear hK K
    refine wpAnyIn_ready (rs:=[4]) (by kernel_rfl) (by simp) (AllReadyIn.cons rfl (λK hK=>?_) AllReadyIn.nil)
    go_simp
    refine hK _ _ ?_
    clear hK K
    refine wpAnyIn_done (by kernel_rfl) ?_ _
    gi_wp2
    exact ⟨HT.out.AA T4,_,_,L4⟩
 case done=>
  rintro W ⟨g,cap,hI⟩ hK
  rw [World.size_alloc,World.size_alloc] at hK ⊢
  have c0:=hI.box.cell 0
  obtain ⟨g5,cap5,L5⟩:∃ g5 cap5,LG w (w.heap.size+1) (W.putObj (w.heap.size+1+1) (.deferred none)) g5 cap5 (Cd X 8):=(YU (B:=w.heap.size+1+1) (by omega)).turn W _ _ _ (ADW _) hK rfl ⟨g,cap,hI⟩
  have E5:g5=g/\cap5=cap:=by
   have a:=L5.box.cell 0
   have b:=(mU hI.box hK (.deferred none)).cell 0
   rw [a] at b
   simp at b
   exact b
  obtain ⟨rfl,rfl⟩:=E5
  have O5:=L5.own
  have B5:=L5.bel
  rw [show Cd X 8=cat X from rfl] at O5 c0
  clear hI L5 G0
  gi_wp2
  refine ⟨by simp,.inl ⟨_,_,rfl,run_takeDeferred hK,?_⟩⟩
  exact ⟨_,results_tmp rfl _ _ _,.slice (some ⟨g5,0,none⟩) (cat X).length cap5,rfl,O5,B5⟩
 case stop=>
  intro W h _
  exact h.elim
def PQ.heap {w w1:World} {s m:Nat} {X:AK} (h:PQ w s m X) (e:w1.heap=w.heap):PQ w1 s m X:=
 ⟨h.sb.heap e,λk hk=>by obtain ⟨f,r,q⟩:=h.lv k hk;exact ⟨f,r,q.heap e⟩,h.ok⟩
def V7 {p:Nat} (hp:p<8) (fr:Fr w.heap.size [s+2+2*p,s+1+2*p] w w'):Fr w.heap.size (zn s) w w':=
 fr.mono (ADW _) λk _ hk e=>hk ((Mc s k).2 (by simp at e;omega))
def PQ.put {p:Nat} {X':AK} (h:PQ w s m X) (hp:p<8) {f:Nat} {r:List Int} (q:Q w' (s+2+2*p) (s+1+2*p) m f r L) (fr:Fr w.heap.size [s+2+2*p,s+1+2*p] w w') (ok:Ok m X') (e:∀ j,Qm.lv X' j=if j=p then L else Qm.lv X j):PQ w' s m X':=by
 have hi:=h.hi
 refine ⟨h.sb.AA fr (by omega) (by simp;omega),λk hk=>?_,ok⟩
 rw [e k]
 by_cases c:k=p
 ·subst c
  rw [AHi rfl]
  exact ⟨f,r,q⟩
 ·rw [AHh c]
  obtain ⟨f2,r2,q2⟩:=h.lv k hk
  exact ⟨f2,r2,q2.AA fr ⟨by omega,by omega⟩ ⟨by simp;omega,by simp;omega⟩⟩
def EW {w2:World} (h:Below w.heap.size w w1) (f:Fr w1.heap.size S w1 w2) (hB:B=w.heap.size):Fr B S w w2:=by
 subst hB
 exact ((Fr.AE h).mono (ADW _) (λ_ _ _=>by simp)).trans (f.less h.size)
def PR (p n:Int) (w:World) (h:PQ w s m X):
 Calls prog 264 #[.pointer (some ⟨s,0,none⟩),.int .i64 p,.int .i64 n] w λe w'=>e=.returned (.int .i64 (EN m X p n))/\PQ w' s m (FQ m X p n)/\Fr w.heap.size (zn s) w w':=by
 have HP:Hid (PQ w s m X):=h
 by_cases c1:p<0
 ·rw [show EN m X p n=2 from AHi (Or.inl c1),show FQ m X p n=X from AHi (Or.inl c1)]
  clear h
  go_enter func264,ntmps264
  go_wp2
  go_ret
  exact ⟨rfl,HP.out,Fr.refl _ _ _⟩
 by_cases c2:8<=p
 ·rw [show EN m X p n=2 from AHi (Or.inr c2),show FQ m X p n=X from AHi (Or.inr c2)]
  clear h
  go_enter func264,ntmps264
  go_wp2
  go_ret
  exact ⟨rfl,HP.out,Fr.refl _ _ _⟩
 obtain ⟨k,rfl⟩:∃ k:Nat,p=(k:Int):=⟨p.toNat,by omega⟩
 have hk:(k:Int)<8:=by omega
 have hno:¬((k:Int)<0\/8<=(k:Int)):=by omega
 have C:Hid (∀ _:Unit,_):=λ_=>Lt n w h
 by_cases c3:n∈ids X
 ·rw [show EN m X k n=6 by unfold EN;rw [AHh hno,AHi c3],show FQ m X k n=X by unfold FQ;rw [AHh hno,AHi c3]]
  rw [AHj c3] at C
  generalize Ce X n=v at *
  clear h c3 hno c1 c2
  go_enter func264,ntmps264
  go_wp2_with fail
  refine (C.out ()).mono ?_
  rintro e w1 ⟨rfl,b1⟩
  go_wp2
  go_ret
  exact ⟨rfl,HP.out.below b1,(Fr.AE b1).mono (ADW _) (λ_ _ _=>by simp)⟩
 rw [AHk c3] at C
 have LN:Hid (∀ w1 w2:World,Below w.heap.size w w1->w2.heap=w1.heap->_):=λw1 w2 b e=>Lu w2 ((HP.out.below b).heap e)
 have CP:Hid (∀ w1 w2:World,Below w.heap.size w w1->w2.heap=w1.heap->Calls prog 321 #[pt s k] w2 λe w'=>e=.returned (.int .i64 (m:Int))/\w'=w2):=λw1 w2 b e=>by
  obtain ⟨f,r,q⟩:=((HP.out.below b).heap e).lv k (by omega)
  exact mO w2 q
 have CC:Hid (∀ w1:World,Below w.heap.size w w1->w1.cell? ⟨s,k,none⟩=some (pt s k)):=λw1 b=>(HP.out.below b).cell k (by omega)
 by_cases c4:m<=X.length
 ·rw [show EN m X k n=5 by unfold EN;rw [AHh hno,AHh c3,AHi c4],show FQ m X k n=X by unfold FQ;rw [AHh hno,AHh c3,AHi c4]]
  have hl:X.length=m:=by have:=h.ok.le;omega
  rw [hl] at LN
  generalize Ce X n=v at *
  clear h c3 hno c1 c2 c4 hl
  unfold pt at CP CC
  go_enter func264,ntmps264
  go_wp2_with fail
  refine (C.out ()).mono ?_
  rintro e w1 ⟨rfl,b1⟩
  have cc:=CC.out w1 b1
  have B1:Hid (Below w.heap.size w w1):=b1
  clear b1
  go_wp2
  go_region_held3 (λw'=>w'.cell? ⟨s,k,none⟩=some (.pointer (some ⟨s+2+2*k,0,none⟩))) (go_keep)
   (first | (go_at_call 99;refine (LN.out w1 _ B1.out ?_).mono ?_;rfl;rintro e w' ⟨rfl,rfl⟩) | (go_at_call 321;refine (CP.out w1 _ B1.out ?_).mono ?_;rfl;rintro e w' ⟨rfl,rfl⟩))
  all_goals go_wp2
  go_ret
  exact ⟨rfl,(HP.out.below B1.out).heap rfl,((Fr.AE B1.out).drew).mono (ADW _) (λ_ _ _=>by simp)⟩
 ·rw [show EN m X k n=0 by unfold EN;rw [AHh hno,AHh c3,AHh c4],show FQ m X k n=X++[((k:Int),n)] by unfold FQ;rw [AHh hno,AHh c3,AHh c4]]
  have hne:((X.length:Int)==(m:Int))=false:=by simp;omega
  have PU:Hid (∀ w1:World,Below w.heap.size w w1->Calls prog 282 #[pt s k,.int .i64 n] w1 λe w'=>e=.returned (.int .i64 0)/\PQ w' s m (X++[((k:Int),n)])/\Fr w1.heap.size (zn s) w1 w'):=λw1 b=>by
   have h1:=HP.out.below b
   obtain ⟨f,r,q⟩:=h1.lv k (by omega)
   have nl:=kD c3 k
   have ll:¬ m<=(Qm.lv X k).length:=by have:=Mb X k;omega
   have:=Lo n w1 q
   rw [show pE m (Qm.lv X k) n=0 by unfold pE;rw [AHh nl,AHh ll],show pL m (Qm.lv X k) n=Qm.lv X k++[n] by unfold pL;rw [AHh nl,AHh ll]] at this
   refine this.mono ?_
   rintro e w2 ⟨rfl,⟨r',q'⟩,fr⟩
   refine ⟨rfl,h1.put (by omega) q' fr (OS h1.ok (by omega) c3 (by omega)) (λj=>?_),V7 (by omega) fr⟩
   rw [Ud]
   by_cases e:j=k
   ·subst e;rfl
   ·rw [AHh e,AHh e]
  generalize Ce X n=v at *
  generalize X.length=l at *
  clear h c3 hno c1 c2 c4
  unfold pt at CP CC PU
  go_enter func264,ntmps264
  go_wp2_with fail
  refine (C.out ()).mono ?_
  rintro e w1 ⟨rfl,b1⟩
  have cc:=CC.out w1 b1
  have B1:Hid (Below w.heap.size w w1):=b1
  clear b1
  go_wp2
  go_region_held3 (λw'=>w'.cell? ⟨s,k,none⟩=some (.pointer (some ⟨s+2+2*k,0,none⟩))) (go_keep)
   (first | (go_at_call 99;refine (LN.out w1 _ B1.out ?_).mono ?_;rfl;rintro e w' ⟨rfl,rfl⟩) | (go_at_call 321;refine (CP.out w1 _ B1.out ?_).mono ?_;rfl;rintro e w' ⟨rfl,rfl⟩))
  all_goals go_wp2_with fail
  have B2:Hid (Below w.heap.size w w1.drew):=⟨B1.out.os,B1.out.tape,B1.out.output,B1.out.size,B1.out.block⟩
  refine (PU.out w1.drew B2.out).mono ?_
  rintro e w3 ⟨rfl,q3,f3⟩
  go_wp2
  go_ret
  exact ⟨rfl,q3,EW B2.out f3 rfl⟩
def mW (w:World) (h:PQ w s m X):
 Calls prog 196 #[.pointer (some ⟨s,0,none⟩)] w λe w'=>e=.returned (.tuple #[.int .i64 (Jd X),.int .i64 (Hr X)])/\Below w.heap.size w w':=by
 by_cases c:X=[]
 ·have C:Hid (∀ _:Unit,_):=λ_=>JF w h c
  rw [show Hr X=12 from AHi c,show Jd X=0 by subst c;rfl]
  clear h c
  go_enter func196,ntmps196
  go_wp2_with fail
  refine (C.out ()).mono ?_
  rintro e w1 ⟨rfl,b1⟩
  go_wp2
  go_ret2
  exact ⟨rfl,b1⟩
 ·obtain ⟨k,g⟩:=Ue h.ok c
  have C:Hid (∀ _:Unit,_):=λ_=>JG w h g
  rw [show Hr X=0 from AHh c,RU g]
  have D:Hid (∀ w1:World,Below w.heap.size w w1->Calls prog 248 #[pt s k] w1 λe w'=>e=.returned (.tuple #[.int .i64 ((Qm.lv X k).headD 0),.int .i64 0])/\∃ d,w'=w1.drewN d):=λw1 b=>by
   obtain ⟨f,r,q⟩:=(h.below b).lv k g.1
   have:=PH w1 q
   rwa [show fE (Qm.lv X k)=0 from AHh g.2.1] at this
  generalize (Qm.lv X k).headD 0=x at *
  clear h c g
  unfold pt at C D
  go_enter func196,ntmps196
  go_wp2_with fail
  refine (C.out ()).mono ?_
  rintro e w1 ⟨rfl,b1⟩
  have D1:Hid (∀ _:Unit,_):=λ_=>D.out w1 b1
  go_wp2_with fail
  refine (D1.out ()).mono ?_
  rintro e w2 ⟨rfl,d,rfl⟩
  go_wp2
  go_ret2
  exact ⟨rfl,b1.os,b1.tape,b1.output,b1.size,b1.block⟩
def YW (w:World) (h:PQ w s m X):
 Calls prog 197 #[.pointer (some ⟨s,0,none⟩)] w λe w'=>e=.returned (.int .i64 (Hr X))/\PQ w' s m (FU X)/\Fr w.heap.size (zn s) w w':=by
 have HP:Hid (PQ w s m X):=h
 by_cases c:X=[]
 ·have C:Hid (∀ _:Unit,_):=λ_=>JF w h c
  rw [show Hr X=12 from AHi c,show FU X=X from AHi c]
  clear h c
  go_enter func197,ntmps197
  go_wp2_with fail
  refine (C.out ()).mono ?_
  rintro e w1 ⟨rfl,b1⟩
  go_wp2
  go_ret
  exact ⟨rfl,HP.out.below b1,(Fr.AE b1).mono (ADW _) (λ_ _ _=>by simp)⟩
 ·obtain ⟨k,g⟩:=Ue h.ok c
  have C:Hid (∀ _:Unit,_):=λ_=>JG w h g
  rw [show Hr X=0 from AHh c]
  have D:Hid (∀ w1:World,Below w.heap.size w w1->Calls prog 255 #[pt s k] w1 λe w'=>e=.returned (.int .i64 0)/\PQ w' s m (FU X)/\Fr w1.heap.size (zn s) w1 w'):=λw1 b=>by
   have h1:=HP.out.below b
   obtain ⟨f,r,q⟩:=h1.lv k g.1
   have:=dF w1 q (Lq h1.ok.nd k)
   rw [show fE (Qm.lv X k)=0 from AHh g.2.1] at this
   refine this.mono ?_
   rintro e w2 ⟨rfl,⟨f',r',q'⟩,fr⟩
   refine ⟨rfl,h1.put g.1 q' fr (YR h1.ok) (λj=>?_),V7 g.1 fr⟩
   rw [uY h1.ok g]
   by_cases e:j=k
   ·subst e;rfl
   ·rw [AHh e,AHh e]
  clear h c g
  unfold pt at C D
  go_enter func197,ntmps197
  go_wp2_with fail
  refine (C.out ()).mono ?_
  rintro e w1 ⟨rfl,b1⟩
  have D1:Hid (∀ _:Unit,_):=λ_=>D.out w1 b1
  go_wp2_with fail
  refine (D1.out ()).mono ?_
  rintro e w2 ⟨rfl,q2,f2⟩
  go_wp2
  go_ret
  exact ⟨rfl,q2,EW b1 f2 rfl⟩
def PT (n:Int) (w:World) (h:PQ w s m X):
 Calls prog 204 #[.pointer (some ⟨s,0,none⟩),.int .i64 n] w λe w'=>e=.returned (.int .i64 (EO X n))/\PQ w' s m (del X n)/\Fr w.heap.size (zn s) w w':=by
 have HP:Hid (PQ w s m X):=h
 have C:Hid (∀ _:Unit,_):=λ_=>Lt n w h
 by_cases c:n∈ids X
 ·obtain ⟨k,hk,e,h1,h2⟩:=YP h.ok c
  rw [AHj c,e] at C
  rw [show EO X n=0 from AHi c]
  have CC:Hid (∀ w1:World,Below w.heap.size w w1->w1.cell? ⟨s,k,none⟩=some (pt s k)):=λw1 b=>(HP.out.below b).cell k hk
  have D:Hid (∀ w1:World,Below w.heap.size w w1->Calls prog 263 #[pt s k,.int .i64 n] w1 λe w'=>e=.returned (.int .i64 0)/\PQ w' s m (del X n)/\Fr w1.heap.size (zn s) w1 w'):=λw1 b=>by
   have h3:=HP.out.below b
   obtain ⟨f,r,q⟩:=h3.lv k hk
   have:=Il n w1 q (Lq h3.ok.nd k)
   rw [show dE (Qm.lv X k) n=0 from AHi h1] at this
   refine this.mono ?_
   rintro e w2 ⟨rfl,⟨r',q'⟩,fr⟩
   refine ⟨rfl,h3.put hk q' fr (RO h3.ok n) (λj=>?_),V7 hk fr⟩
   rw [YL]
   by_cases e:j=k
   ·subst e;rw [AHi rfl]
   ·rw [AHh e,Kd _ _ (h2 j e)]
  have hk2:(k:Int)<8:=by omega
  clear h c e h1 h2
  unfold pt at CC D
  go_enter func204,ntmps204
  go_wp2_with fail
  refine (C.out ()).mono ?_
  rintro e w1 ⟨rfl,b1⟩
  have D1:Hid (∀ _:Unit,_):=λ_=>D.out w1 b1
  have cc:=CC.out w1 b1
  have B1:Hid (Below w.heap.size w w1):=b1
  clear b1
  go_wp2_with fail
  refine (D1.out ()).mono ?_
  rintro e w2 ⟨rfl,q2,f2⟩
  go_wp2
  go_ret
  exact ⟨rfl,q2,EW B1.out f2 rfl⟩
 ·rw [AHk c] at C
  rw [show EO X n=4 from AHh c,RM c]
  generalize Ce X n=v at *
  clear h c
  go_enter func204,ntmps204
  go_wp2_with fail
  refine (C.out ()).mono ?_
  rintro e w1 ⟨rfl,b1⟩
  go_wp2
  go_ret
  exact ⟨rfl,HP.out.below b1,(Fr.AE b1).mono (ADW _) (λ_ _ _=>by simp)⟩
def pn (s k j:Nat):Value:=if j<k then pt s j else .pointer none
def YX (s k:Nat):List Value:=[pn s k 0,pn s k 1,pn s k 2,pn s k 3,pn s k 4,pn s k 5,pn s k 6,pn s k 7]
def mX (s k:Nat) (h:k<8):(YX s k).set k (pt s k)=YX s (k+1):=by
 obtain rfl | rfl | rfl | rfl | rfl | rfl | rfl | rfl:k=0\/k=1\/k=2\/k=3\/k=4\/k=5\/k=6\/k=7:=by omega
 all_goals rfl
def mY (s k:Nat) (h:k<8):(YX s k)[k]?=some (.pointer none):=by
 obtain rfl | rfl | rfl | rfl | rfl | rfl | rfl | rfl:k=0\/k=1\/k=2\/k=3\/k=4\/k=5\/k=6\/k=7:=by omega
 all_goals rfl
structure PN (w wr:World) (m k:Nat):Prop where
 bel:Below w.heap.size w wr
 size:wr.heap.size=w.heap.size+1+2*k
 sb:AB wr w.heap.size (YX w.heap.size k) 227
 lv:∀ j,j<k->Q wr (w.heap.size+2+2*j) (w.heap.size+1+2*j) m 0 (List.replicate m 0) []
def mZ (h:PN w wr m k) (hk:k<8) (q:Q w1 (wr.heap.size+1) wr.heap.size m 0 (List.replicate m 0) []) (f:Fr wr.heap.size [] wr w1) (hs:w1.heap.size=wr.heap.size+2):
 PN w (w1.setCell ⟨w.heap.size,k,none⟩ (pt w.heap.size k)) m (k+1):=by
 have hz:=h.size
 have ne:∀ b,w.heap.size<b->b≠(⟨w.heap.size,k,none⟩:Addr).block:=λb hb=>by simp;omega
 refine ⟨(h.bel.trans ((f.below (by simp)).mono (by omega))).setCell (p:=⟨w.heap.size,k,none⟩) (ADW _) _,by simp [World.setCell];omega,?_,λj hj=>?_⟩
 ·rw [<- mX _ _ hk]
  exact (h.sb.AA f (by omega) (by simp)).set k _
 ·by_cases c:j=k
  ·subst c
   rw [show wr.heap.size+1=w.heap.size+2+2*j by omega,show wr.heap.size=w.heap.size+1+2*j by omega] at q
   exact ⟨q.sb.other (ne _ (by omega)) _,q.sg.other (ne _ (by omega)) _,q.rg⟩
  ·have q2:=(h.lv j (by omega)).AA f ⟨by omega,by omega⟩ ⟨by simp,by simp⟩
   exact ⟨q2.sb.other (ne _ (by omega)) _,q2.sg.other (ne _ (by omega)) _,q2.rg⟩
def vB (h:PN w wr m 8):PQ wr w.heap.size m []:=
 ⟨h.sb,λk hk=>⟨_,_,h.lv k hk⟩,YK m⟩
def Lw (m:Nat) (w:World) (h1:(1:Int)<=m) (h2:(m:Int)<=1024):
 Calls prog 65 #[.int .i64 (m:Int)] w λe w'=>e=.returned (.tuple #[.pointer (some ⟨w.heap.size,0,none⟩),.int .i64 0])/\PQ w' w.heap.size m []/\Below w.heap.size w w'/\w'.heap.size=w.heap.size+17:=by
 have C:Hid (∀ w,_):=λw=>RH m w h1 h2
 go_enter func65,ntmps65
 go_wp2
 have P0:PN w (w.alloc (.cells (YX w.heap.size 0).toArray 227)) m 0:=⟨(Below.refl _ w).alloc (ADW _) _,by simp,AB.new w _ _,λj hj=>by omega⟩
 go_loopw [10] (λi wr=>∃ k:Nat,(k:Int)<=8/\i=.int .i64 (k:Int)/\PN w wr m k) (λi _=>8-(intOf i).toNat)
 case atStart=>exact ⟨0,by omega,rfl,P0⟩
 case round=>
  obtain ⟨k,hk,rfl,P⟩:=hrel
  by_cases c:(k:Int)<8
  ·have C1:Hid (∀ _:Unit,_):=λ_=>C.out wr
   have ST:Hid (∀ w1:World,_->_->_->_):=λw1 q f hs=>mZ (w1:=w1) P (by omega) q f hs
   have cb:Hid (∀ w1:World,Fr wr.heap.size [] wr w1->w1.cell? ⟨w.heap.size,k,none⟩=some (.pointer none)/\w1.frozen? ⟨w.heap.size,k,none⟩=false):=λw1 f=>by
    have b:=P.sb.AA f P.sb.lt (by simp)
    exact ⟨by rw [b.cell,mY _ _ (by omega)],b.free k⟩
   have hz:wr.heap.size+1=w.heap.size+2+2*k:=by have:=P.size;omega
   unfold pt at ST
   clear P P0
   go_wp2_with fail
   refine (C1.out ()).mono ?_
   rintro e w1 ⟨rfl,q,f,hs⟩
   obtain ⟨c1,f1⟩:=cb.out w1 f
   have N2:=ST.out w1 q f hs
   rw [hz]
   clear q f hs
   go_wp2
   go_roundw
   case rel=>exact ⟨k+1,by omega,by go_num,N2⟩
   case measure=>simp [intOf];omega
  ·obtain rfl:k=8:=by omega
   have e:=vB P
   have hb:=P.bel
   have hs:=P.size
   clear P P0
   go_wp2
   go_ret2
   exact ⟨rfl,e,hb,by omega⟩
def YY (n:Int) (w:World) (h:PQ w s m X):
 Calls prog 205 #[.pointer (some ⟨s,0,none⟩),.int .i64 n] w λe w'=>e=.returned (.int .i64 (EO X n))/\PQ w' s m (FS X n)/\Fr w.heap.size (zn s) w w':=by
 have HP:Hid (PQ w s m X):=h
 have C:Hid (∀ _:Unit,_):=λ_=>Lt n w h
 have D:Hid (∀ w1:World,Below w.heap.size w w1->_):=λw1 b=>PT n w1 (HP.out.below b)
 by_cases c:n∈ids X
 ·rw [show EO X n=0 from AHi c] at D
  rw [show EO X n=0 from AHi c,show FS X n=del X n++[(Ce X n,n)] from AHi c]
  have hr:=YO h.ok n
  have P:Hid (∀ w1:World,PQ w1 s m (del X n)->_):=λw1 h1=>PR (Ce X n) n w1 h1
  have hno:¬(Ce X n<0\/8<=Ce X n):=by omega
  have hl:¬ m<=(del X n).length:=by have:=YN c;have:=h.ok.le;omega
  rw [show EN m (del X n) (Ce X n) n=0 by unfold EN;rw [AHh hno,AHh (OR X n),AHh hl],show FQ m (del X n) (Ce X n) n=del X n++[(Ce X n,n)] by unfold FQ;rw [AHh hno,AHh (OR X n),AHh hl]] at P
  generalize Ce X n=v at *
  generalize decide (n∈ids X)=bb at *
  clear h c hr hno hl
  go_enter func205,ntmps205
  go_wp2_with fail
  refine (C.out ()).mono ?_
  rintro e w1 ⟨rfl,b1⟩
  have D1:Hid (∀ _:Unit,_):=λ_=>D.out w1 b1
  have B1:Hid (Below w.heap.size w w1):=b1
  clear b1
  go_wp2_with fail
  refine (D1.out ()).mono ?_
  rintro e w2 ⟨rfl,q2,f2⟩
  have P2:Hid (∀ _:Unit,_):=λ_=>P.out w2 q2
  clear q2
  go_wp2_with fail
  refine (P2.out ()).mono ?_
  rintro e w3 ⟨rfl,q3,f3⟩
  go_wp2
  go_ret
  exact ⟨rfl,q3,EW B1.out (f2.trans (f3.less f2.size)) rfl⟩
 ·rw [show EO X n=4 from AHh c,RM c] at D
  rw [show EO X n=4 from AHh c,show FS X n=X from AHh c]
  generalize Ce X n=v at *
  generalize decide (n∈ids X)=bb at *
  clear h c
  go_enter func205,ntmps205
  go_wp2_with fail
  refine (C.out ()).mono ?_
  rintro e w1 ⟨rfl,b1⟩
  have D1:Hid (∀ _:Unit,_):=λ_=>D.out w1 b1
  have B1:Hid (Below w.heap.size w w1):=b1
  clear b1
  go_wp2_with fail
  refine (D1.out ()).mono ?_
  rintro e w2 ⟨rfl,q2,f2⟩
  go_wp2
  go_ret
  exact ⟨rfl,q2,EW B1.out f2 rfl⟩
abbrev Ks:=Nat->AK
def up (K:Ks) (c:Nat) (X:AK):Ks:=λj=>if j=c then X else K j
def AX (K:Ks) (c:Nat) (X:AK):up K c X c=X:=AHi rfl
def AL {K:Ks} {j:Nat} (X:AK) (h:j≠c):up K c X j=K j:=AHh h
def AG (n:Nat) (K:Ks) (id:Int):Option Nat:=(List.range n).find? λc=>decide (id∈ids (K c))
structure Al (n:Nat) (K:Ks):Prop where
 ok:∀ c,c<n->Ok 32 (K c)
 one:∀ c d,c<n->d<n->∀ id,id∈ids (K c)->id∈ids (K d)->c=d
 wf:∀ c,c<n->∀ id∈ids (K c),(Lit.int .i64 id).wf=true
def Bn {K:Ks} (h:AG n K id=some c):c<n/\id∈ids (K c):=by
 have h1:=AEo h
 have h2:=AEG h
 simp at h1 h2
 exact ⟨h2,h1⟩
def At {K:Ks}:AG n K id=none↔∀ c,c<n->id∉ids (K c):=by
 unfold AG
 rw [ADw]
 simp
def dK {K:Ks} (h:Al n K) (hc:c<n) (hi:id∈ids (K c)):AG n K id=some c:=by
 cases e:AG n K id with
 | none=>exact absurd hi (At.1 e c hc)
 | some d=>
  obtain ⟨h1,h2⟩:=Bn e
  rw [h.one d c h1 hc id h2 hi]
def OV {K K':Ks} (h:∀ c,c<n->(id∈ids (K' c)↔id∈ids (K c))):AG n K' id=AG n K id:=by
 unfold AG
 have:∀ l:List Nat,(∀ c∈l,c<n)->l.find? (λc=>decide (id∈ids (K' c)))=l.find? (λc=>decide (id∈ids (K c))):=by
  intro l
  induction l with
  | nil=>intro _;rfl
  | cons a r ih=>
   intro hl
   rw [AFn,AFn,ih λc hc=>hl c (ADV _ hc)]
   have:=h a (hl a (by simp))
   by_cases c:id∈ids (K a)
   ·rw [AHj c,AHj (this.2 c)]
   ·rw [AHk c,AHk (λq=>c (this.1 q))]
 exact this _ (by simp)
def DM (n:Nat) (K:Ks) (id:Int):Int:=((AG n K id).map λc:Nat=>(c:Int)).getD 0
def Ct (n:Nat) (K:Ks) (id:Int):Bool:=(AG n K id).isSome
def AJ (n:Nat) (c:Int):Prop:=0<=c/\c<n
instance (n:Nat) (c:Int):Decidable (AJ n c):=by unfold AJ;exact inferInstance
def Uk {K:Ks} (h:Al n K) (hc:c<n) (ok:Ok 32 X) (e:∀ id,id∈ids X↔id∈ids (K c)):Al n (up K c X)/\AG n (up K c X)=AG n K:=by
 have m:∀ d id,id∈ids (up K c X d)↔id∈ids (K d):=λd id=>by
  by_cases q:d=c
  ·subst q;rw [AX];exact e id
  ·rw [AL X q]
 refine ⟨⟨λd hd=>?_,λd d' hd hd' id h1 h2=>h.one d d' hd hd' id ((m d id).1 h1) ((m d' id).1 h2),λd hd id hi=>h.wf d hd id ((m d id).1 hi)⟩,funext λid=>OV λd _=>m d id⟩
 by_cases q:d=c
 ·subst q;rw [AX];exact ok
 ·rw [AL X q];exact h.ok d hd
def Je (f:Int->Option Nat) (id:Int) (o:Option Nat):Int->Option Nat:=λj=>if j=id then o else f j
def YZ (_:Ok m X) (n:Int) (id:Int):id∈ids (FS X n)↔id∈ids X:=by
 unfold FS
 split
 ·rename_i c
  rw [Lr,Ke,ADi]
  constructor
  ·rintro (q | q)
   ·exact (AD9.1 q).1
   ·simp at q;subst q;exact c
  ·intro q
   by_cases e:id=n
   ·exact Or.inr (by simp [e])
   ·exact Or.inl (AD9.2 ⟨q,by simpa using e⟩)
 ·exact Iff.rfl
def vC (h:Ok m X) (id:Int):id∈ids (FU X)↔id∈ids X:=by
 unfold FU
 split
 ·exact Iff.rfl
 ·exact YZ h _ id
def Fp {K:Ks} (h:Al n K) (hc:c<n) {p:Int} (hw:(Lit.int .i64 id).wf=true) (hn:AG n K id=none) (ok:Ok 32 (K c++[(p,id)])):
 Al n (up K c (K c++[(p,id)]))/\AG n (up K c (K c++[(p,id)]))=Je (AG n K) id (some c):=by
 have m:∀ d j,j∈ids (up K c (K c++[(p,id)]) d)↔j∈ids (K d)\/(d=c/\j=id):=λd j=>by
  by_cases q:d=c
  ·subst q;rw [AX,Lr];simp
  ·rw [AL _ q];simp [q]
 have a:Al n (up K c (K c++[(p,id)])):=by
  refine ⟨λd hd=>?_,λd d' hd hd' j h1 h2=>?_,λd hd j hj=>?_⟩
  ·by_cases q:d=c
   ·subst q;rw [AX];exact ok
   ·rw [AL _ q];exact h.ok d hd
  ·rcases (m d j).1 h1 with g1 | ⟨e1,g1⟩ <;> rcases (m d' j).1 h2 with g2 | ⟨e2,g2⟩
   ·exact h.one d d' hd hd' j g1 g2
   ·subst g2;exact absurd g1 (At.1 hn d hd)
   ·subst g1;exact absurd g2 (At.1 hn d' hd')
   ·rw [e1,e2]
  ·rcases (m d j).1 hj with g | ⟨_,g⟩
   ·exact h.wf d hd j g
   ·subst g;exact hw
 refine ⟨a,funext λj=>?_⟩
 unfold Je
 by_cases e:j=id
 ·rw [AHi e]
  exact dK a hc ((m c j).2 (Or.inr ⟨rfl,e⟩))
 ·rw [AHh e]
  exact OV λd _=>by rw [m d j];simp [e]
def RV {K:Ks} (h:Al n K) (hc:c<n) (hi:id∈ids (K c)):
 Al n (up K c (del (K c) id))/\AG n (up K c (del (K c) id))=Je (AG n K) id none:=by
 have m:∀ d,d<n->∀ j,j∈ids (up K c (del (K c) id) d)↔j∈ids (K d)/\j≠id:=λd hd j=>by
  by_cases q:d=c
  ·subst q
   rw [AX,Ke]
   unfold wo
   rw [AD9]
   simp
  ·rw [AL _ q]
   constructor
   ·intro g
    refine ⟨g,λe=>?_⟩
    subst e
    exact q (h.one d c hd hc j g hi)
   ·exact λg=>g.1
 have a:Al n (up K c (del (K c) id)):=by
  refine ⟨λd hd=>?_,λd d' hd hd' j h1 h2=>h.one d d' hd hd' j ((m d hd j).1 h1).1 ((m d' hd' j).1 h2).1,λd hd j hj=>h.wf d hd j ((m d hd j).1 hj).1⟩
  by_cases q:d=c
  ·subst q;rw [AX];exact RO (h.ok d hd) id
  ·rw [AL _ q];exact h.ok d hd
 refine ⟨a,funext λj=>?_⟩
 unfold Je
 by_cases e:j=id
 ·rw [AHi e]
  exact At.2 λd hd g=>((m d hd j).1 g).2 e
 ·rw [AHh e]
  exact OV λd hd=>by rw [m d hd j];simp [e]
def dL:Maps.Keyed prog 3:=Maps.int_keyed underlying3
def Me (w:World):(zeroValue 3).run prog w=.ok (.int .i64 0) w:=by kernel_rfl
def MP (w:World) (b n:Nat) (f:Int->Option Nat):Prop:=
 ∃ D:DataW Unit,w.ownsMap prog 3 (plainElem prog 3) b n D/\∀ id,(Lit.int .i64 id).wf=true->Maps.has D (.int .i64 id)=(f id).isSome/\D.atKey (.int .i64 id) (.lit (.int .i64 0))=.lit (.int .i64 (((f id).map λc:Nat=>(c:Int)).getD 0))
def MP.lt {w:World} {b n:Nat} {f:Int->Option Nat} (h:MP w b n f):b<w.heap.size:=by obtain ⟨D,o,_⟩:=h;exact o.lt
def MP.same (h:MP w b n f) (e:w'.heap[b]?=w.heap[b]?):MP w' b n f:=by
 obtain ⟨D,⟨es,clock,hb,rest⟩,k⟩:=h
 exact ⟨D,⟨es,clock,e.trans hb,rest⟩,k⟩
def MP.AA (h:MP w b n f) (k:Fr B S w w') (hb:b<B) (hs:b∉S):MP w' b n f:=h.same (k.block b hb hs)
def nA (h:MP w b n f) (hw:(Lit.int .i64 id).wf=true):
 (Instr.lookup 143 (.map (some b)) (.int .i64 id) true).run prog w=.ok (.tuple #[.int .i64 (((f id).map λc:Nat=>(c:Int)).getD 0),.bool (f id).isSome]) w:=by
 obtain ⟨D,o,k⟩:=h
 obtain ⟨v,ps,hrun,hv⟩:=o.look_ok dL underlying143 (Me w) (plainElem_int underlying3 (by decide)) (Maps.keyOf_int_mk underlying3 hw)
 obtain ⟨k1,k2⟩:=k id hw
 rw [k2] at hv
 obtain ⟨c,rfl,hc,_⟩:=plainElem_int_inv underlying3 hv
 have e:=AHo Prod.fst hc
 simp only [DataW.lit.injEq,Lit.int.injEq,true_and] at e
 rw [hrun,k1,e]
def vD (h:MP w b n f) (hn:n<=10000000) (hw:(Lit.int .i64 id).wf=true) (c:Nat) (hc:c<=64):
 ∃ w',(Instr.mapUpdate 143 (.map (some b)) (.int .i64 id) (.int .i64 (c:Int))).run prog w=.ok () w'/\MP w' b (n+1) (Je f id (some c))/\w.grownBy w' (some b):=by
 obtain ⟨D,o,k⟩:=h
 have hwc:(Lit.int .i64 (c:Int)).wf=true:=by
  simp [Lit.wf,IntKind.min,IntKind.max,IntKind.signed,IntKind.bits]
  omega
 obtain ⟨w',hrun,r1,r2⟩:=o.update dL underlying143 (by unfold maxLen;omega) (Maps.keyOf_int_mk underlying3 hw) (plainElem_int underlying3 hwc)
 refine ⟨w',hrun,⟨_,r1,λj hj=>?_⟩,r2⟩
 unfold Je
 by_cases e:j=id
 ·subst e
  rw [AHi rfl]
  have kl:WideAt.IsKeyLit (Lit.int .i64 j):=trivial
  exact ⟨Maps.has_put_same o.isMap kl _,Maps.atKey_put_same o.isMap kl _ _⟩
 ·rw [AHh e]
  have ne:(Lit.int .i64 j)≠Lit.int .i64 id:=λq=>e (by cases q;rfl)
  rw [Maps.has_put_other ne,Maps.atKey_put_other ne]
  exact k j hj
def qa (s c:Nat):Nat:=s+3+17*c
def qp (s c:Nat):Value:=.pointer (some ⟨s+3+17*c,0,none⟩)
def rz (s n:Nat):List Nat:=List.range' s (3+17*n)
def Ht (s n k:Nat):k∈rz s n↔s<=k/\k<s+(3+17*n):=by unfold rz;rw [AEt]
structure RB (w:World) (s n:Nat) (K:Ks):Prop where
 st:AB w (s+2) [.slice (some ⟨s,0,none⟩) n n,.map (some (s+1))] 145
 tb:AB w s ((List.range n).map (qp s)) 146
 qs:∀ c,c<n->PQ w (qa s c) 32 (K c)
 n1:1<=n
 n2:n<=64
structure RR (w:World) (s n m:Nat) (K:Ks):Prop where
 rb:RB w s n K
 mp:MP w (s+1) m (AG n K)
 al:Al n K
def RB.hi {w:World} {s n:Nat} {K:Ks} (h:RB w s n K):s+(3+17*n)<=w.heap.size:=by
 have:=(h.qs (n-1) (by have:=h.n1;omega)).hi
 have:=h.n1
 unfold qa at *
 omega
def RB.c0 {K:Ks} (h:RB w s n K):w.cell? ⟨s+2,0,none⟩=some (.slice (some ⟨s,0,none⟩) n n):=h.st.cell 0
def RB.c1 {K:Ks} (h:RB w s n K):w.cell? ⟨s+2,1,none⟩=some (.map (some (s+1))):=h.st.cell 1
def RB.cq {K:Ks} (h:RB w s n K) (hc:c<n):w.cell? ⟨s,c,none⟩=some (.pointer (some ⟨qa s c,0,none⟩)):=by
 rw [h.tb.cell c,ADn,AET hc]
 rfl
def RB.AA {B:Nat} {S:List Nat} {w w':World} {s n:Nat} {K:Ks} (h:RB w s n K) (f:Fr B S w w') (hB:s+(3+17*n)<=B) (hS:∀ k,s<=k->k<s+(3+17*n)->k≠s+1->k∉S):RB w' s n K:=by
 have:=h.n1
 refine ⟨h.st.AA f (by omega) (hS _ (by omega) (by omega) (by omega)),h.tb.AA f (by omega) (hS _ (by omega) (by omega) (by omega)),λc hc=>?_,h.n1,h.n2⟩
 exact (h.qs c hc).AA f (by unfold qa;omega) λk h1 h2=>hS k (by unfold qa at h1;omega) (by unfold qa at h2;omega) (by unfold qa at h1;omega)
def RB.put {K:Ks} (h:RB w s n K) (hc:c<n) (q:PQ w' (qa s c) 32 X) (f:Fr w.heap.size (zn (qa s c)) w w'):RB w' s n (up K c X):=by
 have hi:=h.hi
 have nz:∀ k,k<qa s c\/qa s c+17<=k->k∉zn (qa s c):=λk hk e=>by have:=(Mc _ _).1 e;omega
 refine ⟨h.st.AA f (by have:=h.st.lt;omega) (nz _ (by unfold qa;omega)),h.tb.AA f (by have:=h.tb.lt;omega) (nz _ (by unfold qa;omega)),λd hd=>?_,h.n1,h.n2⟩
 by_cases e:d=c
 ·subst e
  rw [AX]
  exact q
 ·rw [AL _ e]
  exact (h.qs d hd).AA f (h.qs d hd).hi λk h1 h2=>nz k (by unfold qa at *;omega)
def Mf (hc:c<n) (f:Fr w.heap.size (zn (qa s c)) w w'):Fr w.heap.size (rz s n) w w':=
 f.mono (ADW _) λk _ hk e=>hk ((Ht s n k).2 (by have:=(Mc _ _).1 e;unfold qa at this;omega))
def RR.Mg (h:MP w (s+1) m f) (k:Fr w.heap.size (zn (qa s c)) w w'):MP w' (s+1) m f:=
 h.AA k h.lt λe=>by have:=(Mc _ _).1 e;unfold qa at this;omega
def RR.below {K:Ks} (h:RR w s n m K) (f:Below w.heap.size w w'):RR w' s n m K:=
 ⟨h.rb.AA (Fr.AE f) h.rb.hi (λ_ _ _ _=>by simp),h.mp.AA (Fr.AE f) h.mp.lt (by simp),h.al⟩
def Kh {K:Ks} (c:Nat) (hc:(c:Int)<n) (h:RB w s n K):
 Calls prog 98 #[.pointer (some ⟨s+2,0,none⟩),.int .i64 (c:Int)] w λe w'=>e=.returned (.bool true)/\w'=w:=by
 have c0:=h.c0
 clear h
 go_enter func98,ntmps98
 go_wp2
 go_ret
 exact ⟨rfl,rfl⟩
def Mh {K:Ks} (c:Int) (hc:¬ AJ n c) (h:RB w s n K):
 Calls prog 98 #[.pointer (some ⟨s+2,0,none⟩),.int .i64 c] w λe w'=>e=.returned (.bool false)/\w'=w:=by
 have c0:=h.c0
 clear h
 unfold AJ at hc
 by_cases c1:c<0
 ·clear hc
  go_enter func98,ntmps98
  go_wp2
  go_ret
  exact ⟨rfl,rfl⟩
 ·have c2:(n:Int)<=c:=by omega
  have c3:decide (c<(n:Int))=false:=AHk (by omega)
  clear hc
  go_enter func98,ntmps98
  go_wp2
  go_ret
  exact ⟨rfl,rfl⟩
def Jf {K:Ks} (id:Int) (hw:(Lit.int .i64 id).wf=true) (h:RR w s n m K):
 Calls prog 203 #[.pointer (some ⟨s+2,0,none⟩),.int .i64 id] w λe w'=>e=.returned (.tuple #[.int .i64 (DM n K id),.bool (Ct n K id)])/\w'=w:=by
 have c1:=h.rb.c1
 have hl:=nA h.mp hw
 unfold DM Ct
 generalize ((AG n K id).map λc:Nat=>(c:Int)).getD 0=a at *
 generalize (AG n K id).isSome=b at *
 clear h hw
 go_enter func203,ntmps203
 go_wp2
 go_ret2
 exact ⟨rfl,rfl⟩
def Bs (n:Nat) (K:Ks) (c:Int):Int:=if AJ n c then ((K c.toNat).length:Int) else 0
def GD (n:Nat) (K:Ks) (c:Int):List Int:=if AJ n c then cat (K c.toNat) else []
def Lx {K:Ks} (c:Int) (h:RR w s n m K):
 Calls prog 50 #[.pointer (some ⟨s+2,0,none⟩),.int .i64 c] w λe w'=>e=.returned (.int .i64 (Bs n K c))/\w'=w:=by
 by_cases hc:AJ n c
 ·rw [show Bs n K c=((K c.toNat).length:Int) from AHi hc]
  obtain ⟨k,rfl⟩:∃ k:Nat,c=(k:Int):=⟨c.toNat,by unfold AJ at hc;omega⟩
  have hk:(k:Int)<n:=hc.2
  rw [AD4]
  have C:Hid (∀ _:Unit,_):=λ_=>Kh k hk h.rb
  have D:Hid (∀ _:Unit,_):=λ_=>Lu w (h.rb.qs k (by omega))
  have c0:=h.rb.c0
  have cq:=h.rb.cq (c:=k) (by omega)
  generalize (K k).length=l at *
  clear h hc
  go_enter func50,ntmps50
  go_wp2_with fail
  refine (C.out ()).mono ?_
  rintro e w' ⟨rfl,rfl⟩
  go_wp2_with fail
  refine (D.out ()).mono ?_
  rintro e w' ⟨rfl,rfl⟩
  go_wp2
  go_ret
  exact ⟨rfl,rfl⟩
 ·rw [show Bs n K c=0 from AHh hc]
  have C:Hid (∀ _:Unit,_):=λ_=>Mh c hc h.rb
  clear h hc
  go_enter func50,ntmps50
  go_wp2_with fail
  refine (C.out ()).mono ?_
  rintro e w' ⟨rfl,rfl⟩
  go_wp2
  go_ret
  exact ⟨rfl,rfl⟩
def dM (m:Nat) (X:AK) (p n:Int):(EN m X p n=0/\FQ m X p n=X++[(p,n)]/\n∉ids X/\0<=p/\p<8/\X.length<m)\/(EN m X p n≠0/\FQ m X p n=X):=by
 unfold EN FQ
 by_cases a:p<0\/8<=p
 ·rw [AHi a,AHi a]
  exact Or.inr ⟨by decide,rfl⟩
 rw [AHh a,AHh a]
 by_cases b:n∈ids X
 ·rw [AHi b,AHi b]
  exact Or.inr ⟨by decide,rfl⟩
 rw [AHh b,AHh b]
 by_cases c:m<=X.length
 ·rw [AHi c,AHi c]
  exact Or.inr ⟨by decide,rfl⟩
 rw [AHh c,AHh c]
 exact Or.inl ⟨rfl,rfl,b,by omega,by omega,by omega⟩
def Ki (K:Ks) (c:Nat):up K c (K c)=K:=by
 funext j
 by_cases e:j=c
 ·subst e;rw [AX]
 ·rw [AL _ e]
def PV (n:Nat) (K:Ks) (c p id:Int):Int:=if AJ n c then (if Ct n K id=true then 6 else EN 32 (K c.toNat) p id) else 3
def Hu (n:Nat) (K:Ks) (c p id:Int):Ks:=if AJ n c then (if Ct n K id=true then K else up K c.toNat (FQ 32 (K c.toNat) p id)) else K
def vE (h:w.grownBy w' (some (s+1))):Fr w.heap.size [s+1] w w'/\Fr w.heap.size (rz s n) w w':=
 ⟨⟨h.os,h.tape,h.output,h.size,λk hk hs=>h.block k hk (λe=>hs (by cases e;simp))⟩,⟨h.os,h.tape,h.output,h.size,λk hk hs=>h.block k hk (λe=>hs (by cases e;exact (Ht s n _).2 (by omega)))⟩⟩
def nB {K:Ks} (c p id:Int) (hw:(Lit.int .i64 id).wf=true) (hm:m<=1000000) (h:RR w s n m K):
 Calls prog 217 #[.pointer (some ⟨s+2,0,none⟩),.int .i64 c,.int .i64 p,.int .i64 id] w λe w'=>e=.returned (.int .i64 (PV n K c p id))/\RR w' s n (m+1) (Hu n K c p id)/\Fr w.heap.size (rz s n) w w':=by
 have up1:∀ {w:World} {K:Ks},RR w s n m K->RR w s n (m+1) K:=λh=>⟨h.rb,by obtain ⟨D,o,k⟩:=h.mp;exact ⟨D,o.mono (by omega),k⟩,h.al⟩
 have H0:Hid (RR w s n (m+1) K):=up1 h
 by_cases hc:AJ n c
 ·obtain ⟨k,rfl⟩:∃ k:Nat,c=(k:Int):=⟨c.toNat,by unfold AJ at hc;omega⟩
  have hk:(k:Int)<n:=hc.2
  have C:Hid (∀ _:Unit,_):=λ_=>Kh k hk h.rb
  have W:Hid (∀ _:Unit,_):=λ_=>Jf id hw h
  cases e:AG n K id with
  | some d=>
   have eB:Ct n K id=true:=by unfold Ct;rw [e];rfl
   rw [show PV n K k p id=6 by unfold PV;rw [AHi hc,AHi eB],show Hu n K k p id=K by unfold Hu;rw [AHi hc,AHi eB]]
   rw [eB] at W
   generalize DM n K id=wn at *
   clear h hc e eB
   go_enter func217,ntmps217
   go_wp2_with fail
   refine (C.out ()).mono ?_
   rintro e w' ⟨rfl,rfl⟩
   go_wp2_with fail
   refine (W.out ()).mono ?_
   rintro e w' ⟨rfl,rfl⟩
   go_wp2
   go_ret
   exact ⟨rfl,H0.out,Fr.refl _ _ _⟩
  | none=>
   have eB:Ct n K id=false:=by unfold Ct;rw [e];rfl
   have eB2:¬ Ct n K id=true:=by rw [eB];decide
   rw [show PV n K k p id=EN 32 (K k) p id by unfold PV;rw [AHi hc,AHh eB2,AD4],show Hu n K k p id=up K k (FQ 32 (K k) p id) by unfold Hu;rw [AHi hc,AHh eB2,AD4]]
   rw [eB] at W
   have P:Hid (∀ _:Unit,_):=λ_=>PR p id w (h.rb.qs k (by omega))
   have c0:=h.rb.c0
   have cq:=h.rb.cq (c:=k) (by omega)
   rcases dM 32 (K k) p id with ⟨e1,e2,e3,e4,e5,e6⟩ | ⟨e1,e2⟩
   ·obtain ⟨al,on⟩:=Fp h.al (c:=k) (by omega) (p:=p) hw e (OS (h.al.ok k (by omega)) ⟨e4,e5⟩ e3 e6)
    rw [e1,e2] at P
    rw [e1,e2]
    have ST:Hid (∀ w2:World,PQ w2 (qa s k) 32 (K k++[(p,id)])->Fr w.heap.size (zn (qa s k)) w w2->w2.cell? ⟨s+2,1,none⟩=some (.map (some (s+1)))/\∃ w3,(Instr.mapUpdate 143 (.map (some (s+1))) (.int .i64 id) (.int .i64 (k:Int))).run prog w2=.ok () w3/\RR w3 s n (m+1) (up K k (K k++[(p,id)]))/\Fr w.heap.size (rz s n) w w3):=λw2 q2 f2=>by
     have rb2:=h.rb.put (by omega) q2 f2
     have mp2:=RR.Mg h.mp f2
     obtain ⟨w3,r3,m3,g3⟩:=vD mp2 (by omega) hw k (by have:=h.rb.n2;omega)
     obtain ⟨f3,f4⟩:=vE (n:=n) g3
     refine ⟨rb2.c1,w3,r3,⟨rb2.AA f3 rb2.hi (λj _ _ hj=>by simpa using hj),by rw [on];exact m3,al⟩,(Mf (by omega) f2).trans (f4.less f2.size)⟩
    generalize DM n K id=wn at *
    generalize K k++[(p,id)]=X2 at *
    clear h hc e eB eB2 al on e1 e2 e3 e4 e5 e6
    unfold qa at cq P ST
    go_enter func217,ntmps217
    go_wp2_with fail
    refine (C.out ()).mono ?_
    rintro e w' ⟨rfl,rfl⟩
    go_wp2_with fail
    refine (W.out ()).mono ?_
    rintro e w' ⟨rfl,rfl⟩
    go_wp2_with fail
    refine (P.out ()).mono ?_
    rintro e w2 ⟨rfl,q2,f2⟩
    obtain ⟨c1,w3,r3,R3,F3⟩:=ST.out w2 q2 f2
    have HR:Hid (RR w3 s n (m+1) (up K k X2)):=R3
    clear q2 f2 R3
    go_wp2
    go_ret
    exact ⟨rfl,HR.out,F3⟩
   ·rw [e2] at P
    rw [e2,Ki]
    have ST:Hid (∀ w2:World,PQ w2 (qa s k) 32 (K k)->Fr w.heap.size (zn (qa s k)) w w2->RR w2 s n (m+1) K/\Fr w.heap.size (rz s n) w w2):=λw2 q2 f2=>by
     have rb2:=h.rb.put (by omega) q2 f2
     rw [Ki] at rb2
     exact ⟨up1 ⟨rb2,RR.Mg h.mp f2,h.al⟩,Mf (by omega) f2⟩
    generalize DM n K id=wn at *
    generalize EN 32 (K k) p id=ee at *
    have e3:(ee !=0)=true:=by simpa using e1
    clear h hc e eB eB2 e1 e2
    unfold qa at cq P ST
    go_enter func217,ntmps217
    go_wp2_with fail
    refine (C.out ()).mono ?_
    rintro e w' ⟨rfl,rfl⟩
    go_wp2_with fail
    refine (W.out ()).mono ?_
    rintro e w' ⟨rfl,rfl⟩
    go_wp2_with fail
    refine (P.out ()).mono ?_
    rintro e w2 ⟨rfl,q2,f2⟩
    have R2:=ST.out w2 q2 f2
    clear q2 f2
    go_wp2
    go_ret
    exact ⟨rfl,R2.1,R2.2⟩
 ·rw [show PV n K c p id=3 from AHh hc,show Hu n K c p id=K from AHh hc]
  have C:Hid (∀ _:Unit,_):=λ_=>Mh c hc h.rb
  clear h hc
  go_enter func217,ntmps217
  go_wp2_with fail
  refine (C.out ()).mono ?_
  rintro e w' ⟨rfl,rfl⟩
  go_wp2
  go_ret
  exact ⟨rfl,H0.out,Fr.refl _ _ _⟩
def Jg (n:Nat) (K:Ks) (c:Int):Int:=if AJ n c then Jd (K c.toNat) else 0
def Ya (n:Nat) (K:Ks) (c:Int):Int:=if AJ n c then Hr (K c.toNat) else 3
def LH (n:Nat) (K:Ks) (c:Int):Ks:=if AJ n c then up K c.toNat (FU (K c.toNat)) else K
def dN {K:Ks} (c:Int) (h:RR w s n m K):
 Calls prog 133 #[.pointer (some ⟨s+2,0,none⟩),.int .i64 c] w λe w'=>e=.returned (.tuple #[.int .i64 (Jg n K c),.int .i64 (Ya n K c)])/\RR w' s n m (LH n K c)/\Fr w.heap.size (rz s n) w w':=by
 have H0:Hid (RR w s n m K):=h
 by_cases hc:AJ n c
 ·rw [show Jg n K c=Jd (K c.toNat) from AHi hc,show Ya n K c=Hr (K c.toNat) from AHi hc,show LH n K c=up K c.toNat (FU (K c.toNat)) from AHi hc]
  obtain ⟨k,rfl⟩:∃ k:Nat,c=(k:Int):=⟨c.toNat,by unfold AJ at hc;omega⟩
  have hk:(k:Int)<n:=hc.2
  rw [AD4]
  have C:Hid (∀ _:Unit,_):=λ_=>Kh k hk h.rb
  have T:Hid (∀ _:Unit,_):=λ_=>mW w (h.rb.qs k (by omega))
  have c0:=h.rb.c0
  have cq:=h.rb.cq (c:=k) (by omega)
  by_cases hX:K k=[]
  ·rw [show Hr (K k)=12 from AHi hX,show Jd (K k)=0 by rw [hX];rfl] at T
   rw [show Hr (K k)=12 from AHi hX,show Jd (K k)=0 by rw [hX];rfl,show FU (K k)=K k from AHi hX,Ki]
   clear h hc hX
   unfold qa at cq T
   go_enter func133,ntmps133
   go_wp2_with fail
   refine (C.out ()).mono ?_
   rintro e w' ⟨rfl,rfl⟩
   go_wp2_with fail
   refine (T.out ()).mono ?_
   rintro e w2 ⟨rfl,b2⟩
   go_wp2
   go_ret2
   exact ⟨rfl,H0.out.below b2,(Fr.AE b2).mono (ADW _) (λ_ _ _=>by simp)⟩
  ·rw [show Hr (K k)=0 from AHh hX] at T
   rw [show Hr (K k)=0 from AHh hX]
   obtain ⟨al,on⟩:=Uk h.al (c:=k) (by omega) (YR (h.al.ok k (by omega))) (λid=>vC (h.al.ok k (by omega)) id)
   have U:Hid (∀ w2:World,Below w.heap.size w w2->w2.cell? ⟨s+2,0,none⟩=some (.slice (some ⟨s,0,none⟩) n n)/\w2.cell? ⟨s,k,none⟩=some (.pointer (some ⟨qa s k,0,none⟩))/\Calls prog 197 #[.pointer (some ⟨qa s k,0,none⟩)] w2 λe w'=>e=.returned (.int .i64 0)/\RR w' s n m (up K k (FU (K k)))/\Fr w.heap.size (rz s n) w w'):=λw2 b2=>by
    have h2:=h.below b2
    have:=YW w2 (h2.rb.qs k (by omega))
    rw [show Hr (K k)=0 from AHh hX] at this
    refine ⟨h2.rb.c0,h2.rb.cq (by omega),this.mono ?_⟩
    rintro e w3 ⟨rfl,q3,f3⟩
    exact ⟨rfl,⟨h2.rb.put (by omega) q3 f3,by rw [on];exact RR.Mg h2.mp f3,al⟩,EW b2 (Mf (by omega) f3) rfl⟩
   generalize Jd (K k)=tn at *
   generalize FU (K k)=X2 at *
   clear h hc hX al on
   unfold qa at cq T U
   go_enter func133,ntmps133
   go_wp2_with fail
   refine (C.out ()).mono ?_
   rintro e w' ⟨rfl,rfl⟩
   go_wp2_with fail
   refine (T.out ()).mono ?_
   rintro e w2 ⟨rfl,b2⟩
   obtain ⟨d0,dq,U2⟩:=U.out w2 b2
   have U3:Hid (∀ _:Unit,_):=λ_=>U2
   clear b2 U2
   go_wp2_with fail
   refine (U3.out ()).mono ?_
   rintro e w3 ⟨rfl,r3,f3⟩
   go_wp2
   go_ret2
   exact ⟨rfl,r3,f3⟩
 ·rw [show Jg n K c=0 from AHh hc,show Ya n K c=3 from AHh hc,show LH n K c=K from AHh hc]
  have C:Hid (∀ _:Unit,_):=λ_=>Mh c hc h.rb
  clear h hc
  go_enter func133,ntmps133
  go_wp2_with fail
  refine (C.out ()).mono ?_
  rintro e w' ⟨rfl,rfl⟩
  go_wp2
  go_ret2
  exact ⟨rfl,H0.out,Fr.refl _ _ _⟩
def Tryz.Mi:(prog.info? 146).map (λi=>(i.zero,i.size,i.bytes))=some (some (.pointer none),1,8):=by kernel_rfl
def GF (s n k:Nat):List Value:=(List.range n).map λc=>if c<k then qp s c else .pointer none
def OX (s n k c:Nat) (h:c<n):(GF s n k)[c]?=some (if c<k then qp s c else .pointer none):=by
 unfold GF
 rw [ADn,AET h]
 rfl
def nC (s n k:Nat) (_:k<n):(GF s n k).set k (qp s k)=GF s n (k+1):=by
 apply AEH
 intro c
 by_cases hc:c<n
 ·rw [OX _ _ _ _ hc,AD6]
  by_cases e:k=c
  ·subst e
   rw [AHi rfl,AHi (by simpa [GF] using hc),AHi (by omega)]
  ·rw [AHh e,OX _ _ _ _ hc]
   by_cases q:c<k
   ·rw [AHi q,AHi (by omega)]
   ·rw [AHh q,AHh (by omega)]
 ·rw [ADg (by simp [GF];omega),ADg (by simp [GF];omega)]
def nD (s n:Nat):GF s n n=(List.range n).map (qp s):=by
 unfold GF
 apply AFu
 intro c hc
 rw [AHi (ADk.1 hc)]
def dO (s n:Nat):madeCells #[Value.pointer none] n=(GF s n 0).toArray:=by
 apply AFU
 ·simp [size_madeCells,GF]
 ·intro i h1 h2
  simp [madeCells,GF,AF5]
structure RN (w wr:World) (n k:Nat):Prop where
 bel:Below w.heap.size w wr
 size:wr.heap.size=w.heap.size+3+17*k
 st:AB wr (w.heap.size+2) [.slice (some ⟨w.heap.size,0,none⟩) n n,.map (some (w.heap.size+1))] 145
 tb:AB wr w.heap.size (GF w.heap.size n k) 146
 mp:MP wr (w.heap.size+1) 0 λ_=>none
 qs:∀ c,c<k->PQ wr (qa w.heap.size c) 32 []
def nE (h:RN w wr n k) (hk:k<n) (q:PQ w1 wr.heap.size 32 []) (f:Below wr.heap.size wr w1) (hs:w1.heap.size=wr.heap.size+17):
 RN w (w1.setCell ⟨w.heap.size,k,none⟩ (qp w.heap.size k)) n (k+1):=by
 have hz:=h.size
 have nb:∀ b,b≠w.heap.size->b≠(⟨w.heap.size,k,none⟩:Addr).block:=λb hb=>hb
 have fs:Fr w1.heap.size [w.heap.size] w1 (w1.setCell ⟨w.heap.size,k,none⟩ (qp w.heap.size k)):=(Fr.refl _ _ _).setCell (Or.inr (by simp)) _
 refine ⟨(h.bel.trans (f.mono (by omega))).setCell (p:=⟨w.heap.size,k,none⟩) (ADW _) _,by simp [World.setCell];omega,?_,?_,?_,λc hc=>?_⟩
 ·exact (h.st.AA (Fr.AE f) h.st.lt (by simp)).other (nb _ (by omega)) _
 ·rw [<- nC _ _ _ hk]
  exact (h.tb.AA (Fr.AE f) h.tb.lt (by simp)).set k _
 ·have m1:=h.mp.AA (Fr.AE f) h.mp.lt (by simp)
  exact m1.AA fs m1.lt (by simp)
 ·by_cases e:c=k
  ·subst e
   rw [show wr.heap.size=qa w.heap.size c by unfold qa;omega] at q
   exact q.AA fs q.hi λj h1 h2=>by unfold qa at h1;simp;omega
  ·have q2:=(h.qs c (by omega)).below f
   exact q2.AA fs q2.hi λj h1 h2=>by unfold qa at h1;simp;omega
def Yc (n:Nat):AG n (λ_=>[])=λ_=>none:=by
 funext id
 exact At.2 λc _=>by simp [ids]
def vF (h:RN w wr n n) (h1:1<=n) (h2:n<=64):RR wr w.heap.size n 0 λ_=>[]:=
 ⟨⟨h.st,by rw [<- nD];exact h.tb,h.qs,h1,h2⟩,by rw [Yc];exact h.mp,⟨λ_ _=>YK 32,λ_ _ _ _ id hi=>by simp [ids] at hi,λ_ _ id hi=>by simp [ids] at hi⟩⟩
def Yd (n:Nat) (w:World) (h1:(1:Int)<=n) (h2:(n:Int)<=64):
 Calls prog 27 #[.int .i64 (n:Int)] w λe w'=>e=.returned (.tuple #[.pointer (some ⟨w.heap.size+2,0,none⟩),.int .i64 0])/\RR w' w.heap.size n 0 (λ_=>[])/\Below w.heap.size w w':=by
 have C:Hid (∀ w,_):=λw=>Lw 32 w (by decide) (by decide)
 have hmk:=run_make_row' (P:=prog) 142 146 (.pointer none) 8 underlying142 Tryz.Mi rfl .i64 .i64 n (by omega) (by omega)
 rw [dO w.heap.size n] at hmk
 have hmm:=@run_makeMap prog
 obtain ⟨T0,hT⟩:∃ T0,GF w.heap.size n 0=T0:=⟨_,rfl⟩
 have HT:Hid (GF w.heap.size n 0=T0):=hT
 rw [hT] at hmk
 clear hT
 go_enter func27,ntmps27
 go_wp2
 have P0:RN w (((w.alloc (.cells T0.toArray 146)).alloc (.map #[] 0)).alloc (.cells #[.slice (some ⟨w.heap.size,0,none⟩) n n,.map (some (w.heap.size+1))] 145)) n 0:=by
  refine ⟨(((Below.refl _ w).alloc (ADW _) _).alloc (by simp) _).alloc (by simp;omega) _,by simp,?_,?_,?_,λc hc=>by omega⟩
  ·have:=AB.new ((w.alloc (.cells T0.toArray 146)).alloc (.map #[] 0)) [.slice (some ⟨w.heap.size,0,none⟩) n n,.map (some (w.heap.size+1))] 145
   rwa [World.size_alloc,World.size_alloc] at this
  ·rw [HT.out]
   exact ((AB.new w _ _).alloc _).alloc _
  ·have o:=World.ownsMap_made (H:=Unit) (w.alloc (.cells T0.toArray 146)) prog 3 (plainElem prog 3)
   rw [World.size_alloc] at o
   exact ⟨_,o.alloc _,λid _=>⟨rfl,rfl⟩⟩
 go_loopw [24] (λi wr=>∃ k:Nat,(k:Int)<=n/\i=.int .i64 (k:Int)/\RN w wr n k) (λi _=>n-(intOf i).toNat)
 case atStart=>exact ⟨0,by omega,rfl,P0⟩
 case round=>
  obtain ⟨k,hk,rfl,P⟩:=hrel
  by_cases c:(k:Int)<n
  ·have C1:Hid (∀ _:Unit,_):=λ_=>C.out wr
   have ST:Hid (∀ w1:World,_->_->_->_):=λw1 q f hs=>nE (w1:=w1) P (by omega) q f hs
   have cb:Hid (∀ w1:World,Below wr.heap.size wr w1->w1.cell? ⟨w.heap.size,k,none⟩=some (.pointer none)/\w1.frozen? ⟨w.heap.size,k,none⟩=false/\w1.cell? ⟨w.heap.size+2,0,none⟩=some (.slice (some ⟨w.heap.size,0,none⟩) n n)):=λw1 f=>by
    have b:=P.tb.AA (Fr.AE f) P.tb.lt (by simp)
    have b2:=P.st.AA (Fr.AE f) P.st.lt (by simp)
    exact ⟨by rw [b.cell,OX _ _ _ _ (by omega),AHh (by omega)],b.free k,b2.cell 0⟩
   have hz:wr.heap.size=w.heap.size+3+17*k:=P.size
   unfold qp at ST
   clear P P0
   go_wp2_with fail
   refine (C1.out ()).mono ?_
   rintro e w1 ⟨rfl,q,f,hs⟩
   obtain ⟨c1,f1,s1⟩:=cb.out w1 f
   have N2:=ST.out w1 q f hs
   rw [hz]
   clear q f hs
   go_wp2
   go_roundw
   case rel=>exact ⟨k+1,by omega,by go_num,N2⟩
   case measure=>simp [intOf];omega
  ·obtain rfl:k=n:=by omega
   have e:=vF P (by omega) (by omega)
   have hb:=P.bel
   clear P P0
   go_wp2
   go_ret2
   exact ⟨rfl,e,hb⟩
def D7 (n:Nat) (K:Ks) (id:Int):Int:=if Ct n K id=true then 0 else 4
def Mj (n:Nat) (K:Ks) (id:Int):Ks:=match AG n K id with | some c=>up K c (FS (K c) id) | none=>K
def Jh (n:Nat) (K:Ks) (id:Int):Ks:=match AG n K id with | some c=>up K c (del (K c) id) | none=>K
def vG (h:MP w b n f) (hw:(Lit.int .i64 id).wf=true) (ty:TypeId):
 ∃ w',(Builtin.delete_ #[143,3] ty #[.map (some b),.int .i64 id]).run prog w=.ok (.tuple #[]) w'/\MP w' b n (Je f id none)/\Fr w.heap.size [b] w w':=by
 obtain ⟨D,o,k⟩:=h
 obtain ⟨w',hrun,r1,r2⟩:=o.drop dL underlying143 (Maps.keyOf_int_mk underlying3 hw) ty
 refine ⟨w',hrun,⟨_,r1,λj hj=>?_⟩,?_⟩
 ·unfold Je
  by_cases e:j=id
  ·subst e
   rw [AHi rfl]
   exact ⟨Maps.has_del_same,Maps.atKey_del_same _⟩
  ·rw [AHh e]
   have ne:(Lit.int .i64 j)≠Lit.int .i64 id:=λq=>e (by cases q;rfl)
   rw [Maps.has_del_other ne,Maps.atKey_del_other ne]
   exact k j hj
 ·have g:=r2.grown
  exact ⟨g.os,g.tape,g.output,g.size,λk hk hs=>g.block k hk (λe=>hs (by cases e;simp))⟩
def V8 {K:Ks} (id:Int) (hw:(Lit.int .i64 id).wf=true) (h:RR w s n m K):
 Calls prog 142 #[.pointer (some ⟨s+2,0,none⟩),.int .i64 id] w λe w'=>e=.returned (.int .i64 (D7 n K id))/\RR w' s n m (Mj n K id)/\Fr w.heap.size (rz s n) w w':=by
 have C:Hid (∀ _:Unit,_):=λ_=>Jf id hw h
 have H0:Hid (RR w s n m K):=h
 cases e:AG n K id with
 | none=>
  have eB:Ct n K id=false:=by unfold Ct;rw [e];rfl
  rw [show DM n K id=0 by unfold DM;rw [e];rfl,eB] at C
  rw [show D7 n K id=4 by unfold D7;rw [eB];rfl,show Mj n K id=K by unfold Mj;rw [e]]
  clear h e eB
  go_enter func142,ntmps142
  go_wp2_with fail
  refine (C.out ()).mono ?_
  rintro e w' ⟨rfl,rfl⟩
  go_wp2
  go_ret
  exact ⟨rfl,H0.out,Fr.refl _ _ _⟩
 | some k=>
  obtain ⟨hk,hi⟩:=Bn e
  have eB:Ct n K id=true:=by unfold Ct;rw [e];rfl
  rw [show DM n K id=k by unfold DM;rw [e];rfl,eB] at C
  rw [show D7 n K id=0 by unfold D7;rw [eB];rfl,show Mj n K id=up K k (FS (K k) id) by unfold Mj;rw [e]]
  have D:Hid (∀ _:Unit,_):=λ_=>YY id w (h.rb.qs k hk)
  rw [show EO (K k) id=0 from AHi hi] at D
  obtain ⟨al,on⟩:=Uk h.al hk (YQ (h.al.ok k hk) id) (λj=>YZ (h.al.ok k hk) id j)
  have ST:Hid (∀ w2:World,PQ w2 (qa s k) 32 (FS (K k) id)->Fr w.heap.size (zn (qa s k)) w w2->RR w2 s n m (up K k (FS (K k) id))/\Fr w.heap.size (rz s n) w w2):=λw2 q2 f2=>
   ⟨⟨h.rb.put hk q2 f2,by rw [on];exact RR.Mg h.mp f2,al⟩,Mf hk f2⟩
  have c0:=h.rb.c0
  have cq:=h.rb.cq hk
  have hk2:(k:Int)<n:=by omega
  generalize FS (K k) id=X2 at *
  clear h e hi eB al on
  unfold qa at cq D ST
  go_enter func142,ntmps142
  go_wp2_with fail
  refine (C.out ()).mono ?_
  rintro e w' ⟨rfl,rfl⟩
  go_wp2_with fail
  refine (D.out ()).mono ?_
  rintro e w2 ⟨rfl,q2,f2⟩
  have R2:=ST.out w2 q2 f2
  clear q2 f2
  go_wp2
  go_ret
  exact ⟨rfl,R2.1,R2.2⟩
def V9 {K:Ks} (id:Int) (hw:(Lit.int .i64 id).wf=true) (h:RR w s n m K):
 Calls prog 140 #[.pointer (some ⟨s+2,0,none⟩),.int .i64 id] w λe w'=>e=.returned (.int .i64 (D7 n K id))/\RR w' s n m (Jh n K id)/\Fr w.heap.size (rz s n) w w':=by
 have C:Hid (∀ _:Unit,_):=λ_=>Jf id hw h
 have H0:Hid (RR w s n m K):=h
 cases e:AG n K id with
 | none=>
  have eB:Ct n K id=false:=by unfold Ct;rw [e];rfl
  rw [show DM n K id=0 by unfold DM;rw [e];rfl,eB] at C
  rw [show D7 n K id=4 by unfold D7;rw [eB];rfl,show Jh n K id=K by unfold Jh;rw [e]]
  clear h e eB
  go_enter func140,ntmps140
  go_wp2_with fail
  refine (C.out ()).mono ?_
  rintro e w' ⟨rfl,rfl⟩
  go_wp2
  go_ret
  exact ⟨rfl,H0.out,Fr.refl _ _ _⟩
 | some k=>
  obtain ⟨hk,hi⟩:=Bn e
  have eB:Ct n K id=true:=by unfold Ct;rw [e];rfl
  rw [show DM n K id=k by unfold DM;rw [e];rfl,eB] at C
  rw [show D7 n K id=0 by unfold D7;rw [eB];rfl,show Jh n K id=up K k (del (K k) id) by unfold Jh;rw [e]]
  obtain ⟨al,on⟩:=RV h.al hk hi
  obtain ⟨w5,r5,m5,f5⟩:=vG h.mp hw 0
  have f5':Fr w.heap.size (rz s n) w w5:=f5.mono (ADW _) λj _ hj q=>hj (by simp at q;subst q;exact (Ht s n _).2 (by omega))
  have rb5:=h.rb.AA f5 h.rb.hi (λj _ _ hj=>by simpa using hj)
  have D:Hid (∀ _:Unit,_):=λ_=>PT id w5 (rb5.qs k hk)
  rw [show EO (K k) id=0 from AHi hi] at D
  have ST:Hid (∀ w6:World,PQ w6 (qa s k) 32 (del (K k) id)->Fr w5.heap.size (zn (qa s k)) w5 w6->RR w6 s n m (up K k (del (K k) id))/\Fr w.heap.size (rz s n) w w6):=λw6 q6 f6=>
   ⟨⟨rb5.put hk q6 f6,by rw [on];exact RR.Mg m5 f6,al⟩,f5'.trans ((Mf hk f6).less f5'.size)⟩
  have c1:=h.rb.c1
  have d0:=rb5.c0
  have dq:=rb5.cq hk
  have hk2:(k:Int)<n:=by omega
  generalize del (K k) id=X2 at *
  clear h e hi eB al on rb5 m5 f5 f5'
  unfold qa at dq D ST
  go_enter func140,ntmps140
  go_wp2_with fail
  refine (C.out ()).mono ?_
  rintro e w' ⟨rfl,rfl⟩
  go_wp2_with fail
  refine (D.out ()).mono ?_
  rintro e w2 ⟨rfl,q2,f2⟩
  have R2:=ST.out w2 q2 f2
  clear q2 f2
  go_wp2
  go_ret
  exact ⟨rfl,R2.1,R2.2⟩
def WA {K:Ks} (c:Int) (h:RR w s n m K):
 Calls prog 152 #[.pointer (some ⟨s+2,0,none⟩),.int .i64 c] w λe w'=>∃ v,e=.returned v/\w'.ownsRow w.heap.size 3 1 v (GD n K c).length ((GD n K c).map (Value.int .i64))/\Below w.heap.size w w':=by
 by_cases hc:AJ n c
 ·rw [show GD n K c=cat (K c.toNat) from AHi hc]
  obtain ⟨k,rfl⟩:∃ k:Nat,c=(k:Int):=⟨c.toNat,by unfold AJ at hc;omega⟩
  have hk:(k:Int)<n:=hc.2
  rw [AD4]
  have C:Hid (∀ _:Unit,_):=λ_=>Kh k hk h.rb
  have D:Hid (∀ _:Unit,_):=λ_=>YV w (h.rb.qs k (by omega))
  have c0:=h.rb.c0
  have cq:=h.rb.cq (c:=k) (by omega)
  clear h hc
  go_enter func152,ntmps152
  go_wp2_with fail
  refine (C.out ()).mono ?_
  rintro e w' ⟨rfl,rfl⟩
  go_wp2_with fail
  refine (D.out ()).mono ?_
  rintro e w2 ⟨v,rfl,o2,b2⟩
  go_wp2
  go_ret
  exact ⟨v,rfl,o2,b2⟩
 ·rw [show GD n K c=[] from AHh hc]
  have C:Hid (∀ _:Unit,_):=λ_=>Mh c hc h.rb
  clear h hc
  go_enter func152,ntmps152
  go_wp2_with fail
  refine (C.out ()).mono ?_
  rintro e w' ⟨rfl,rfl⟩
  go_wp2
  go_ret
  exact ⟨.slice none 0 0,rfl,World.ownsRow_nil _ _ _ _,Below.refl _ _⟩
end Go.Proofs.YtdlhlfpigcgapaaGreatDoor.Rqu

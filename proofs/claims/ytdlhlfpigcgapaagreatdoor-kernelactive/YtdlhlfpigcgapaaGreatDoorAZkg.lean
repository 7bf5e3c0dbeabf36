import Derived.Test.YtdlhlfpigcgapaaGreatDoorAZal
import Derived.Test.YtdlhlfpigcgapaaGreatDoorAZkd
import Derived.Test.YtdlhlfpigcgapaaGreatDoorAZkc
set_option maxRecDepth 100000
set_option maxHeartbeats 16000000
set_option linter.unusedVariables false
set_option linter.unusedSimpArgs false
set_option linter.defProp false
namespace Go.Proofs.YtdlhlfpigcgapaaGreatDoor.Krn
open Go.Proofs.Tryz
open Mm
variable {K:List (List Int)} {L:List Int} {e id s x:Int}
def Gg {m:Nat} {c:Int} (h:tb m c=true):0<=c/\c<64:=by
 unfold tb at h
 simp only [ADe,decide_eq_true_eq] at h
 exact h.1
def FK {m c:Nat} {d:Int} (h:tb m d=true) (hc:tb m (c:Int)=false):c≠d.toNat:=λe=>by
 have:=Gg h
 have e2:(c:Int)=d:=by omega
 rw [e2,h] at hc
 cases hc
def Bl (L:List Int) (s:Int):Prop:=(∀ x∈L,0<=x)/\L.sum=s/\s<=1000000
structure Ch (n:Nat) (S T:KS):Prop where
 on:T.on=S.on
 ac:T.ac=S.ac
 R:T.R=S.R
 ct:∀ s,Bl S.ct s->Bl T.ct s
 gs:S.R=none->T.gs=S.gs
 q:∀ c,c<n->tb S.ac (c:Int)=false->S.q c=[]->T.q c=[]
 t:∀ c,c<n->tb S.ac (c:Int)=false->S.t c=[]->T.t c=[]
 wk:∀ c,c<n->tb S.ac (c:Int)=false->Cm.ks S.wk c=[]->Cm.ks T.wk c=[]
 cl:∀ c,c<n->tb S.ac (c:Int)=false->Cm.ks S.cl c=[]->Cm.ks T.cl c=[]
 ob:∀ c,c<n->tb S.ac (c:Int)=false->Hm.ks S.ok c=[]->Hm.ks T.ok c=[]
 r:∀ c,c<n->tb S.ac (c:Int)=false->(∀ k,k<16->S.r k≠(c:Int))->∀ k,k<16->T.r k≠(c:Int)
 z:∀ c,(T.z.getD c (false,false)).1=(S.z.getD c (false,false)).1
section
variable {n:Nat} {S T U:KS}
def Ch.refl (n:Nat) (S:KS):Ch n S S:=⟨rfl,rfl,rfl,λ_ h=>h,λ_=>rfl,λ_ _ _ h=>h,λ_ _ _ h=>h,λ_ _ _ h=>h,λ_ _ _ h=>h,λ_ _ _ h=>h,λ_ _ _ h=>h,λ_=>rfl⟩
def Ch.trans (h:Ch n S T) (g:Ch n T U):Ch n S U where
 on:=g.on.trans h.on
 ac:=g.ac.trans h.ac
 R:=g.R.trans h.R
 ct:=λs hs=>g.ct s (h.ct s hs)
 gs:=λe=>(g.gs (h.R.trans e)).trans (h.gs e)
 q:=λc hc hn e=>g.q c hc (by rw [h.ac];exact hn) (h.q c hc hn e)
 t:=λc hc hn e=>g.t c hc (by rw [h.ac];exact hn) (h.t c hc hn e)
 wk:=λc hc hn e=>g.wk c hc (by rw [h.ac];exact hn) (h.wk c hc hn e)
 cl:=λc hc hn e=>g.cl c hc (by rw [h.ac];exact hn) (h.cl c hc hn e)
 ob:=λc hc hn e=>g.ob c hc (by rw [h.ac];exact hn) (h.ob c hc hn e)
 r:=λc hc hn e=>g.r c hc (by rw [h.ac];exact hn) (h.r c hc hn e)
 z:=λc=>(g.z c).trans (h.z c)
def Ch.of (on:T.on=S.on) (ac:T.ac=S.ac) (R:T.R=S.R) (ct:T.ct=S.ct) (gs:T.gs=S.gs) (q:T.q=S.q) (t:T.t=S.t) (wk:T.wk=S.wk) (cl:T.cl=S.cl) (ob:T.ok=S.ok) (r:T.r=S.r) (z:T.z=S.z):Ch n S T where
 on:=on
 ac:=ac
 R:=R
 ct:=λs hs=>by rw [ct];exact hs
 gs:=λ_=>gs
 q:=λc _ _ e=>by rw [q];exact e
 t:=λc _ _ e=>by rw [t];exact e
 wk:=λc _ _ e=>by rw [wk];exact e
 cl:=λc _ _ e=>by rw [cl];exact e
 ob:=λc _ _ e=>by rw [ob];exact e
 r:=λc _ _ e=>by rw [r];exact e
 z:=λc=>by rw [z]
def Ch.bU (h:Ch n S T) {K:Rqu.Ks} (hq:∀ c,c<n->tb S.ac (c:Int)=false->S.q c=[]->K c=[]):Ch n S { T with q:=K }:=⟨h.on,h.ac,h.R,h.ct,h.gs,hq,h.t,h.wk,h.cl,h.ob,h.r,h.z⟩
def Ch.lU (h:Ch n S T) {K:Zm.Ks} (hq:∀ c,c<n->tb S.ac (c:Int)=false->S.t c=[]->K c=[]):Ch n S { T with t:=K }:=⟨h.on,h.ac,h.R,h.ct,h.gs,h.q,hq,h.wk,h.cl,h.ob,h.r,h.z⟩
def Ch.ofw (h:Ch n S T) (hq:∀ c,c<n->tb S.ac (c:Int)=false->Cm.ks S.wk c=[]->Cm.ks K c=[]):Ch n S { T with wk:=K }:=⟨h.on,h.ac,h.R,h.ct,h.gs,h.q,h.t,hq,h.cl,h.ob,h.r,h.z⟩
def Ch.ofc (h:Ch n S T) (hq:∀ c,c<n->tb S.ac (c:Int)=false->Cm.ks S.cl c=[]->Cm.ks K c=[]):Ch n S { T with cl:=K }:=⟨h.on,h.ac,h.R,h.ct,h.gs,h.q,h.t,h.wk,hq,h.ob,h.r,h.z⟩
def Ch.ofr (h:Ch n S T) {r:Nat->Int} (hq:∀ c,c<n->tb S.ac (c:Int)=false->(∀ k,k<16->S.r k≠(c:Int))->∀ k,k<16->r k≠(c:Int)):Ch n S { T with r:=r }:=⟨h.on,h.ac,h.R,h.ct,h.gs,h.q,h.t,h.wk,h.cl,h.ob,hq,h.z⟩
def ACQ {K:Rqu.Ks} {m c:Nat} {d p:Int} (h:tb m d=true) (hc:tb m (c:Int)=false) (e:K c=[]):Rqu.Hu n K d p id c=[]:=by
 rcases (show Rqu.Hu n K d p id=K\/∃ X,Rqu.Hu n K d p id=Rqu.up K d.toNat X by
  unfold Rqu.Hu
  split
  ·split
   ·exact Or.inl rfl
   ·exact Or.inr ⟨_,rfl⟩
  ·exact Or.inl rfl) with q | ⟨X,q⟩
 ·rw [q];exact e
 ·rw [q,Rqu.AL _ (FK h hc)];exact e
def AAs {K:Rqu.Ks} {c:Nat} (e:K c=[]):Rqu.Jh n K id c=[]:=by
 unfold Rqu.Jh
 generalize Rqu.AG n K id=o
 cases o with
 | none=>exact e
 | some d=>
  by_cases q:c=d
  ·subst q;show Rqu.up K c _ c=[];rw [Rqu.AX,e];rfl
  ·exact (Rqu.AL _ q).trans e
def ADG {K:Rqu.Ks} {c:Nat} (e:K c=[]):Rqu.Mj n K id c=[]:=by
 unfold Rqu.Mj
 generalize Rqu.AG n K id=o
 cases o with
 | none=>exact e
 | some d=>
  by_cases q:c=d
  ·subst q;show Rqu.up K c _ c=[];rw [Rqu.AX,e];simp [Qm.FS,Qm.ids]
  ·exact (Rqu.AL _ q).trans e
def ADH {K:Rqu.Ks} {c:Nat} {d:Int} (e:K c=[]):Rqu.LH n K d c=[]:=by
 rcases (show Rqu.LH n K d=K\/Rqu.LH n K d=Rqu.up K d.toNat (Qm.FU (K d.toNat)) by
  unfold Rqu.LH
  split
  ·exact Or.inr rfl
  ·exact Or.inl rfl) with q | q
 ·rw [q];exact e
 ·rw [q]
  by_cases q:c=d.toNat
  ·subst q;rw [Rqu.AX,e];simp [Qm.FU]
  ·rw [Rqu.AL _ q];exact e
def ADI {K:Zm.Ks} {c:Nat} (e:K c=[]):Zm.Yv n K id c=[]:=by
 unfold Zm.Yv
 generalize Zm.AG n K id=o
 cases o with
 | none=>exact e
 | some d=>
  by_cases q:c=d
  ·subst q;show Zm.up K c _ c=[];rw [Zm.AX,e];rfl
  ·exact (Zm.AL _ q).trans e
def ADJ {K:Zm.Ks} {m c:Nat} {d:Int} (h:tb m d=true) (hc:tb m (c:Int)=false) (e:K c=[]):Tim.Pf n K d x c=[]:=by
 rcases (show Tim.Pf n K d x=K\/∃ X,Tim.Pf n K d x=Zm.up K d.toNat X by
  unfold Tim.Pf
  split
  ·split
   ·unfold Zm.vX
    split
    ·exact Or.inr ⟨_,rfl⟩
    ·exact Or.inl rfl
   ·exact Or.inl rfl
  ·exact Or.inl rfl) with q | ⟨X,q⟩
 ·rw [q];exact e
 ·rw [q,Zm.AL _ (FK h hc)];exact e
def ADK {K:Zm.Ks} {c:Nat} {now d:Int} (e:K c=[]):Tim.Rn n now K d c=[]:=by
 rcases (show Tim.Rn n now K d=K\/∃ i,Tim.Rn n now K d=Zm.up K d.toNat (Wm.Av i (K d.toNat)) by
  unfold Tim.Rn
  split
  ·unfold Zm.vY
   split
   ·exact Or.inl rfl
   ·exact Or.inr ⟨_,rfl⟩
  ·exact Or.inl rfl) with q | ⟨i,q⟩
 ·rw [q];exact e
 ·rw [q]
  by_cases q:c=d.toNat
  ·subst q;rw [Zm.AX,e];rfl
  ·rw [Zm.AL _ q];exact e
def ACR {K:Zm.Ks} {m c:Nat} {d b:Int} (h:tb m b=true) (hc:tb m (c:Int)=false) (e:K c=[]):Tim.DV n K d b c=[]:=by
 rcases (show Tim.DV n K d b=K\/∃ x,K d.toNat≠[]/\Tim.DV n K d b=Tim.Gn K d.toNat b.toNat x by
  unfold Tim.DV
  split
  ·split
   ·exact Or.inl rfl
   ·split
    ·exact Or.inl rfl
    ·rename_i hx
     exact Or.inr ⟨_,by rw [hx];simp,rfl⟩
  ·exact Or.inl rfl) with q | ⟨x,hx,q⟩
 ·rw [q];exact e
 ·rw [q]
  unfold Tim.Gn
  by_cases q:c=d.toNat
  ·subst q;exact absurd e hx
  ·rw [Zm.AL _ q,Zm.AL _ (FK h hc)];exact e
def MH (K:List (List Int)) {c k:Nat} (X:List Int) (h:c≠k):Cm.ks (K.set k X) c=Cm.ks K c:=by
 unfold Cm.ks
 rw [ADY,ADY,AEP (λe=>h e.symm)]
def O4 {c k:Nat} (e:Cm.ks K c=[]):Cm.ks (K.set k (Cm.ks K k).tail) c=[]:=by
 by_cases q:c=k
 ·subst q
  rw [e]
  unfold Cm.ks
  rw [ADY,AD6]
  by_cases q:c<K.length <;> simp [q]
 ·rw [MH K _ q];exact e
def Xk {c k:Nat} {o:Option Nat} (h:c≠k) (e:Cm.ks K c=[]):Cm.ks (Cm.NF K k o) c=[]:=by
 cases o with
 | none=>exact e
 | some i=>exact (MH K _ h).trans e
def jF {c a b:Nat} (h:c≠b) (e:Cm.ks K c=[]):Cm.ks (Cm.mv K a b) c=[]:=by
 unfold Cm.mv
 split
 ·exact e
 ·rw [MH _ _ h];exact O4 e
def ADL {m c:Nat} {d:Int} (hn:c<n) (h:d=-1\/tb m d=true) (hc:tb m (c:Int)=false) (e:Cm.ks K c=[]):Cm.ks (Cm.ZJ n K d) c=[]:=by
 unfold Cm.ZJ Cm.pc
 rcases h with rfl | h
 ·simp only [AHn]
  exact Xk (by omega) e
 ·have:=Gg h
  have hd:¬ d=-1:=by omega
  simp only [hd,AHm]
  split
  ·rename_i k hk
   split at hk
   ·cases hk
    exact Xk (FK h hc) e
   ·cases hk
  ·exact e
def ADM {c:Nat} {d:Int} (e:Cm.ks K c=[]):Cm.ks (Cm.Rx n K d) c=[]:=by
 unfold Cm.Rx
 split
 ·exact O4 e
 ·exact e
def AAt {c:Nat} {d:Int} (hn:c<n) (e:Cm.ks K c=[]):Cm.ks (Cm.Rz n K d) c=[]:=by
 unfold Cm.Rz
 split
 ·exact jF (by omega) e
 ·exact e
def ADN {m c:Nat} {d:Int} (h:tb m d=true) (hc:tb m (c:Int)=false) (e:Cm.ks K c=[]):Cm.ks (Cm.Ru K d) c=[]:=by
 unfold Cm.Ru
 split
 ·exact Xk (FK h hc) e
 ·exact e
def ADO {c:Nat} {d:Int} (e:Cm.ks K c=[]):Cm.ks (Cm.NH K d) c=[]:=by
 unfold Cm.NH
 split
 ·exact O4 e
 ·exact e
def ACS {m c:Nat} {a b:Int} (h:tb m b=true) (hc:tb m (c:Int)=false) (e:Cm.ks K c=[]):Cm.ks (Cm.DV K a b) c=[]:=by
 unfold Cm.DV
 split
 ·exact jF (FK h hc) e
 ·exact e
def KR (K:List (List Int)) {c k:Nat} (X:List Int) (h:c≠k):Hm.ks (K.set k X) c=Hm.ks K c:=by
 unfold Hm.ks
 rw [ADY,ADY,AEP (λe=>h e.symm)]
def Vt (K:List (List Int)) (k:Nat):Hm.ks (K.set k []) k=[]:=by
 unfold Hm.ks
 rw [ADY,AD6]
 by_cases q:k<K.length <;> simp [q]
def ADP {A:List Nat} {m c:Nat} {d:Int} (h:tb m d=true) (hc:tb m (c:Int)=false) (e:Hm.ks K c=[]):Hm.ks (Hm.LS 12 n A K d) c=[]:=by
 unfold Hm.LS
 split
 ·rw [KR _ _ (FK h hc)];exact e
 ·exact e
def ADQ {A:List Nat} {m c:Nat} {d:Int} (h:tb m d=true) (hc:tb m (c:Int)=false) (e:Hm.ks K c=[]):Hm.ks (Hm.JL 12 n A K d x) c=[]:=by
 unfold Hm.JL
 split
 ·split
  ·rw [KR _ _ (FK h hc)];exact e
  ·exact e
 ·exact e
def ADR {c:Nat} {d:Int} (e:Hm.ks K c=[]):Hm.ks (Hm.H' n K d) c=[]:=by
 unfold Hm.H'
 split
 ·by_cases q:c=d.toNat
  ·subst q;exact Vt _ _
  ·rw [KR _ _ q];exact e
 ·exact e
def ADS {r:Nat->Int} {m c:Nat} {k u:Int} (h:tb m u=true) (hc:tb m (c:Int)=false) (g:∀ k,k<16->r k≠(c:Int)) (j:Nat) (hj:j<16):Nm.A7 e r k u j≠(c:Int):=by
 by_cases q:e=0
 ·subst q
  rw [Nm.Ci]
  by_cases q:j=k.toNat
  ·subst q
   rw [Nm.Fu]
   intro e2
   rw [e2,hc] at h
   cases h
  ·rw [Nm.Eb _ q];exact g j hj
 ·rw [Nm.BN q];exact g j hj
def ADT {r:Nat->Int} {c:Nat} {k:Int} (g:∀ k,k<16->r k≠(c:Int)) (j:Nat) (hj:j<16):Nm.A7 e r k (-1) j≠(c:Int):=by
 by_cases q:e=0
 ·subst q
  rw [Nm.Ci]
  by_cases q:j=k.toNat
  ·subst q
   rw [Nm.Fu]
   omega
  ·rw [Nm.Eb _ q];exact g j hj
 ·rw [Nm.BN q];exact g j hj
def Ac (S:KS):Prop:=S.ac<18446744073709551616/\S.ac≠0
def Ac.ch (h:Ac S) (g:Ch n S T):Ac T:=by unfold Ac;rw [g.ac];exact h
def TP (id p:Int) {c:Int} (f:Bool) (h:tb S.ac c=true):Ch n S (El n S id p c f).2:=by
 unfold El
 split
 ·have c1:Ch n S { S with X:=Tm.GA n S.O S.X id c f }:=Ch.of rfl rfl rfl rfl rfl rfl rfl rfl rfl rfl rfl rfl
  have c2:Ch n S { S with X:=Tm.GA n S.O S.X id c f,q:=Rqu.Hu n S.q c p id }:=Ch.bU c1 λk _ hk e=>ACQ h hk e
  exact c2
 ·exact Ch.refl _ _
def TQ (id near:Int) (h:Ac S):Ch n S (put n S id near).2:=by
 unfold put
 split
 ·exact TP _ _ _ (Aff.MD h.1 h.2).1
 ·exact Ch.refl _ _
def jG (p:Int) (m:Nat) (h:Ac S):Ch n S (spawn n S p m).2.2:=by
 unfold spawn
 split
 ·have c1:Ch n S (QH n S p m):=Ch.of rfl rfl rfl rfl rfl rfl rfl rfl rfl rfl rfl rfl
  exact c1.trans (TQ _ _ (h.ch c1))
 ·exact Ch.refl _ _
def OG (id:Int):Ch n S (JT n S id):=Ch.bU (Ch.refl n S) λ_ _ _ e=>AAs e
def OH (id:Int):Ch n S (VV n S id):=Ch.lU (Ch.refl n S) λ_ _ _ e=>ADI e
def Vu (id near:Int) (h:Ac S):Ch n S (move n S id near).2:=by
 unfold move
 split
 ·exact (OG id).trans (TQ _ _ (h.ch (OG id)))
 ·exact Ch.refl _ _
def O6 (id:Int) (h:Ac S):Ch n S (JB n S id).2:=by
 unfold JB
 split
 ·split
  ·exact Ch.refl _ _
  ·split
   ·exact Vu _ _ h
   ·exact Ch.refl _ _
 ·exact Ch.refl _ _
def bV (id:Int):Ch n S (lG S id):=Ch.of rfl rfl rfl rfl rfl rfl rfl rfl rfl rfl rfl rfl
def sV (id:Int) (t:Tm.Th):Ch n S (exit n S id t).2:=by
 unfold exit
 split
 ·exact (OH _).trans (bV _)
 ·exact (OG _).trans (bV _)
def jH (id:Int) (t:Tm.Th):Ch n S (yield n S id t).2:=by
 unfold yield
 split
 ·exact Ch.refl _ _
 ·exact Ch.bU (Ch.refl n S) λ_ _ _ e=>ADG e
def bX {c:Int} (d:Int) (h:tb S.ac c=true):Ch n S (arm n S c d).2.2:=by
 unfold arm
 split
 ·exact Ch.lU (Ch.refl n S) λ_ _ hk e=>ADJ h hk e
 ·exact Ch.refl _ _
def lV {m:Nat} (h:m<18446744073709551616) (h0:m≠0):tb m ((hd (ls m):Nat):Int)=true:=by
 have e:ls m≠[]:=λe=>h0 (Er m h e)
 have:hd (ls m)∈ls m:=by
  cases q:ls m with
  | nil=>exact absurd q e
  | cons x l=>exact ADX
 have:=(Qv m _).1 this
 rw [Dx m _ this.1]
 exact this.2
def AAu (c:Int) (h:Ac S):tb S.ac (G7 S c)=true:=by
 unfold G7
 split
 ·assumption
 ·exact lV h.1 h.2
def AAv (id x:Int):Ch n S (slS n S id x):=by
 have c1:Ch n S { S with X:=Tm.Jb S.O S.X id x }:=Ch.of rfl rfl rfl rfl rfl rfl rfl rfl rfl rfl rfl rfl
 have c2:Ch n S { S with X:=Tm.Jb S.O S.X id x,q:=Rqu.Jh n S.q id }:=Ch.bU c1 λ_ _ _ e=>AAs e
 exact c2
def jI (id:Int) (t:Tm.Th) (d:Int) (h:Ac S):Ch n S (sleep n S id t d).2.2:=by
 have c1:Ch n S (arm n S (G7 S t.cpu) d).2.2:=bX d (AAu _ h)
 unfold sleep
 split
 ·exact Ch.refl _ _
 ·split
  ·exact c1.trans (AAv _ _)
  ·exact c1
def bY (id:Int):Ch n S (Sn S id):=Ch.of rfl rfl rfl rfl rfl rfl rfl rfl rfl rfl rfl rfl
def TR (id:Int) (t:Tm.Th) (h:Ac S):Ch n S (JC n S id t).2:=by
 unfold JC
 split
 ·exact (bY id).trans (TQ _ _ (h.ch (bY (n:=n) id)))
 ·exact Ch.refl _ _
def jJ (id:Int) (t:Tm.Th) (h:Ac S):Ch n S (G8 n S id t).2:=by
 unfold G8
 split
 ·exact (OH _).trans (TR _ _ (h.ch (OH (n:=n) _)))
 ·exact Ch.refl _ _
def AAw (id:Int) (m:Nat) (h:Ac S):Ch n S (QI n S id m).2:=by
 have c1:Ch n S (So n S id m):=Ch.of rfl rfl rfl rfl rfl rfl rfl rfl rfl rfl rfl rfl
 unfold QI
 split
 ·exact c1.trans (O6 _ (h.ch c1))
 ·exact Ch.refl _ _
def AAx {m n:Nat} {f:Int->Int} {bt:Int->Int->Bool} (hn:n<=64) (h:Rqb.E1 (Rqb.bc m n)=0):tb m (Rqb.JH f bt (Rqb.bc m n))=true:=by
 have e:Rqb.bc m n≠[]:=λe=>by rw [e] at h;cases h
 unfold Rqb.JH
 rw [AHh e]
 have p:=Rqb.Yf (f:=f) (bt:=bt) e (Rqb.RZ _ _)
 rcases Rqb.AB3 (f:=f) (bt:=bt) (Rqb.bc m n) with q | q
 ·omega
 ·generalize Rqb.bs f bt (Rqb.bc m n)=x at *
  unfold Rqb.bc KK at q
  simp only [AE6,AD9,ADk] at q
  obtain ⟨i,⟨hi,hb⟩,rfl⟩:=q
  rw [Dx m i (by omega)]
  exact hb
def Xl (hn:n<=64):Ch n S (balance n S).2.2:=by
 unfold balance
 split
 ·rename_i hb
  split
  ·exact Ch.refl _ _
  ·unfold XC
   split
   ·exact (OG _).trans (TP _ _ _ (AAx hn hb))
   ·exact Ch.refl _ _
 ·exact Ch.refl _ _
def bZ (id:Int):Ch n S (cancel n S id).2:=by
 unfold cancel
 split
 ·exact OH _
 ·exact Ch.refl _ _
def Ic (k near:Int) (h:Ac S):Ch n S (send n S k near).2:=by
 unfold send
 split
 ·exact Ch.ofr (Ch.refl n S) λ_ _ hc e j hj=>ADS (Aff.MD h.1 h.2).1 hc e j hj
 ·exact Ch.refl _ _
def Xm (k:Int) (m:Nat) (h:Ac S):Ch n S (request n S k m).2:=by
 have c1:Ch n S (Sq n S k m):=Ch.of rfl rfl rfl rfl rfl rfl rfl rfl rfl rfl rfl rfl
 unfold request
 split
 ·exact c1.trans (Ic _ _ (h.ch c1))
 ·exact Ch.refl _ _
def sW (k:Int):Ch n S (free S k).2:=by
 unfold free
 split
 ·have c1:Ch n S { S with i:=Bm.A7 (Bm.Aa S.i k) S.i k Bm.zi }:=Ch.of rfl rfl rfl rfl rfl rfl rfl rfl rfl rfl rfl rfl
  have c2:Ch n S { S with i:=Bm.A7 (Bm.Aa S.i k) S.i k Bm.zi,r:=Nm.A7 (Nm.H8 S.r k) S.r k (-1) }:=Ch.ofr c1 λ_ _ _ e j hj=>ADT e j hj
  exact c2
 ·exact Ch.refl _ _
def JE (k:Int) (h:Ac S):Ch n S (Du n S k).2:=by
 unfold Du
 split
 ·split
  ·exact Ic _ _ h
  ·exact Ch.refl _ _
 ·exact Ch.refl _ _
def cA (k:Int) (m:Nat) (h:Ac S):Ch n S (FD n S k m).2:=by
 have c1:Ch n S (VW n S k m):=Ch.of rfl rfl rfl rfl rfl rfl rfl rfl rfl rfl rfl rfl
 unfold FD
 split
 ·exact c1.trans (JE _ (h.ch c1))
 ·exact Ch.refl _ _
def OI (h:Ac S) (l:List Int):Ch n S (Bv n S l):=by
 unfold Bv
 induction l generalizing S with
 | nil=>exact Ch.refl _ _
 | cons x l ih=>exact (O6 x h).trans (ih (h.ch (O6 (n:=n) x h)))
def UK (h:Ac S) (l:List Int):Ch n S (BO n S l):=by
 unfold BO
 induction l generalizing S with
 | nil=>exact Ch.refl _ _
 | cons x l ih=>exact (JE x h).trans (ih (h.ch (JE (n:=n) x h)))
def sY (h:Ac S):Ch n S (home n S):=(OI h _).trans (UK (h.ch (OI (n:=n) h _)) _)
def Xn (c:Int) (h:Ac S) (l:List Int):Ch n S (sendAll n S c l):=by
 unfold sendAll
 induction l generalizing S with
 | nil=>exact Ch.refl _ _
 | cons x l ih=>exact (Ic x c h).trans (ih (h.ch (Ic (n:=n) x c h)))
end
def jK {a b:Nat} (ha:a<18446744073709551616) (hb:b<18446744073709551616) (h:∀ c,tb a c=tb b c):a=b:=by
 refine AEO λi=>?_
 rcases Nat.lt_or_ge i 64 with l | l
 ·rw [<- Dx a i l,<- Dx b i l,h]
 ·rw [F7 ha l,F7 hb l]
def I4 (m:Nat) (c d:Int):tb (nt m (bv c)) d=(tb m d&&!decide (d=c)):=by
 by_cases h:0<=d/\d<64
 ·rw [C' _ _ h,C' _ _ h]
  unfold nt
  rw [ADp,Dh _ _ (Ei c),Hk]
  have h1:d.toNat<64:=by omega
  have h2:(c=(d.toNat:Int)/\d.toNat<64)↔d=c:=by omega
  rw [AHp.2 h2,AHj h1,AEC]
 ·rw [Di _ _ h,Di _ _ h];rfl
def lW (m:Nat) (c d:Int) (hc:0<=c) (hc2:c<64):tb (wl m [c]) d=(tb m d || decide (d=c)):=by
 by_cases h:0<=d/\d<64
 ·rw [C' _ _ h,C' _ _ h,Xv]
  have h1:d.toNat<64:=by omega
  have h2:((d.toNat:Int)∈[c])↔d=c:=by simp;omega
  simp only [h1,h2,decide_true,AEC]
 ·rw [Di _ _ h,Di _ _ h]
  have:¬ d=c:=by omega
  simp [this]
def OJ {m:Nat} {c:Int} (h:tb m c=true):m≠0:=λe=>by rw [e,Aff.Ou] at h;cases h
def OL {m:Nat} {c:Int} (hm:m<18446744073709551616) (h:tb m c=true):wl (nt m (bv c)) [c]=m:=by
 have r:=Gg h
 refine jK (Gh _ _ (DZ _ _)) hm λd=>?_
 rw [lW _ _ _ r.1 r.2,I4]
 by_cases e:d=c
 ·subst e;simp [h]
 ·simp [e]
def AAy {m:Nat} {c:Int} (hm:m<18446744073709551616) (h:tb m c=true) (h1:(ls m).length≠1):nt m (bv c)≠0:=by
 intro e
 have q:=cX m (bv c) (Ei c)
 rw [e,ET] at q
 have r:=Gg h
 have e2:m=bv c:=by
  rw [<- OL hm h,e]
  simp [wl]
 have:(ls (bv c)).length=1:=by
  obtain ⟨k,rfl⟩:∃ k:Nat,c=(k:Int):=⟨c.toNat,by omega⟩
  have hk:k<64:=by omega
  have:ls (bv (k:Int))=[k]:=by
   unfold ls
   have:∀ i∈List.range 64,(bv (k:Int)).testBit i=(i==k):=λi hi=>by
    have:=ADk.1 hi
    rw [Hk]
    by_cases e:i=k
    ·subst e;simp;omega
    ·have:¬ ((k:Int)=(i:Int)):=by omega
     simp [this,e]
   rw [AEN this]
   clear q e e2 h h1 r hm this
   rw [List.filter_eq_cons_iff]
   refine ⟨List.range k,List.range' (k+1) (63-k),?_,?_,by simp,?_⟩
   ·rw [AFY,AFY,show (64:Nat)=k+(1+(63-k)) by omega,<- AFm,<- AFm]
    simp
   ·intro i hi
    have:=ADk.1 hi
    simp;omega
   ·rw [AEI]
    intro i hi
    have:=AEt.1 hi
    simp;omega
  rw [this];rfl
 rw [e2] at h1
 exact h1 this
def Fw (L:List Int) (i:Nat) (x:Int) (h:i<L.length):(L.set i x).sum=L.sum-L.getD i 0+x:=by
 induction L generalizing i with
 | nil=>simp at h
 | cons a L ih=>
  cases i with
  | zero=>simp [List.getD];omega
  | succ i=>
   have:=ih i (by simpa using h)
   simp only [AD2,AFD,AFy,this]
   omega
def O7 {i:Nat} (h:∀ y∈L,0<=y) (hx:0<=x):∀ y∈L.set i x,0<=y:=λy hy=>by
 rcases AE9 hy with q | q
 ·exact h y q
 ·rw [q];exact hx
def pos_at (h:∀ y∈L,0<=y) (i:Nat):0<=L.getD i 0:=by
 rw [ADY]
 cases e:L[i]? with
 | none=>simp
 | some y=>exact h y (AFI e)
def Kj (h:∀ y∈L,0<=y) (i:Nat):L.getD i 0<=L.sum:=by
 induction L generalizing i with
 | nil=>simp
 | cons a L ih=>
  have ha:=h a ADX
  have hl:∀ y∈L,0<=y:=λy hy=>h y (ADV _ hy)
  cases i with
  | zero=>
   have:=pos_at hl 0
   have:=ih hl 0
   simp [List.getD]
   omega
  | succ i=>
   have:=ih hl i
   simp only [AFy,AFD]
   omega
def AAz (a b:Int) (h:Bl L s):Bl (Pm.E7 L a b) s:=by
 unfold Pm.E7
 split
 ·rename_i q
  obtain ⟨h1,h2,h3,h4⟩:=q
  unfold Pm.ic at h1 h2
  simp only [decide_eq_true_eq] at h1 h2
  obtain ⟨p,e,l⟩:=h
  have q1:=pos_at p a.toNat
  have q2:=pos_at p b.toNat
  have ne:b.toNat≠a.toNat:=by omega
  unfold Pm.at'
  refine ⟨O7 (O7 p (by omega)) (by omega),?_,l⟩
  rw [Fw _ _ _ (by simp;omega),Fw _ _ _ (by omega)]
  have:(L.set b.toNat (L.getD b.toNat 0+L.getD a.toNat 0)).getD a.toNat 0=L.getD a.toNat 0:=by
   rw [ADY,AEP ne,<- ADY]
  rw [this]
  omega
 ·exact h
def ABA {c:Int} (h:Bl L s) (hc:0<=c) (hc2:c<(L.length:Int)) (hs:s<1000000):Bl (Pm.Dn L c 1) (s+1):=by
 obtain ⟨p,e,l⟩:=h
 have q1:=pos_at p c.toNat
 have q2:=Kj p c.toNat
 have f:Pm.fe (Pm.at' L c+1)=0:=by
  unfold Pm.fe Pm.at'
  rw [AHi (by omega)]
 have i:Pm.ic L c=true:=AHj ⟨hc,hc2⟩
 unfold Pm.Dn
 rw [AHi ⟨i,f⟩]
 unfold Pm.at'
 refine ⟨O7 p (by omega),?_,by omega⟩
 rw [Fw _ _ _ (by omega)]
 omega
section
variable {n:Nat} {S T U:KS}
def KT (id:Int) {f:Tm.Th->Int×Int×KS} (h:∀ t,Ch n S (f t).2.2):Ch n S (Nk S id f).2.2:=by
 unfold Nk
 split
 ·exact h _
 ·exact Ch.refl _ _
def Ie (c:Int) {f:Int×Int×KS} (h:tb S.ac c=true->Ch n S f.2.2):Ch n S (IU n S c f).2.2:=by
 unfold IU
 split
 ·exact Ch.refl _ _
 ·split
  ·exact Ch.refl _ _
  ·rename_i q
   exact h (by simpa using q)
def Ch.ofo (h:Ch n S T) {A:List Nat} (hq:∀ c,c<n->tb S.ac (c:Int)=false->Hm.ks S.ok c=[]->Hm.ks K c=[]):Ch n S { T with oa:=A,ok:=K }:=⟨h.on,h.ac,h.R,h.ct,h.gs,h.q,h.t,h.wk,h.cl,hq,h.r,h.z⟩
def sZ (k:Int):Ch n S (J8 S k).2:=by
 unfold J8
 split
 ·exact Ch.refl _ _
 ·exact Ch.of rfl rfl rfl rfl rfl rfl rfl rfl rfl rfl rfl rfl
def tA (d:Int):Ch n S (tick S d).2:=by
 unfold tick
 split
 ·exact Ch.of rfl rfl rfl rfl rfl rfl rfl rfl rfl rfl rfl rfl
 ·exact Ch.refl _ _
def TU {c:Int} (h:c=-1\/tb S.ac c=true):Ch n S (queue n S c).2.2:=Ch.ofw (Ch.refl n S) λ_ hn hk e=>ADL hn h hk e
def jL (e:Ev) (k1:e.kind≠23) (k2:e.kind≠24):Ch n S (A8 n S e).2.2:=by
 unfold A8
 split
 ·exact Ch.refl _ _
 split
 ·rename_i q;exact absurd q (by omega)
 split
 ·exact sZ _
 split
 ·exact Ie _ λ_=>Ch.of rfl rfl rfl rfl rfl rfl rfl rfl rfl rfl rfl rfl
 split
 ·exact Ch.of rfl rfl rfl rfl rfl rfl rfl rfl rfl rfl rfl rfl
 split
 ·exact Ch.refl _ _
 split
 ·exact Ch.refl _ _
 ·exact Ch.refl _ _
def cB (e:Ev) (k1:e.kind≠23) (k2:e.kind≠24):Ch n S (Au n S e).2.2:=by
 unfold Au
 split
 ·split
  ·exact TU (Or.inl rfl)
  ·exact Ie _ λq=>TU (Or.inr q)
 split
 ·exact Ch.refl _ _
 split
 ·exact Ie _ λq=>Ch.ofc (Ch.refl n S) λ_ _ hk e=>ADN q hk e
 split
 ·exact Ie _ λq=>Ch.ofo (Ch.refl n S) λ_ _ hk e=>ADP q hk e
 split
 ·exact Ie _ λq=>Ch.ofo (Ch.refl n S) λ_ _ hk e=>ADQ q hk e
 ·exact jL e k1 k2
def Xo (e:Ev) (h:Ac S) (k1:e.kind≠23) (k2:e.kind≠24):Ch n S (Ab n S e).2.2:=by
 unfold Ab
 split
 ·exact tA _
 split
 ·exact Ie _ λq=>bX _ q
 split
 ·exact bZ _
 split
 ·exact Xm _ _ h
 split
 ·exact sW _
 split
 ·exact cA _ _ h
 split
 ·exact Ch.of rfl rfl rfl rfl rfl rfl rfl rfl rfl rfl rfl rfl
 split
 ·exact Ch.of rfl rfl rfl rfl rfl rfl rfl rfl rfl rfl rfl rfl
 split
 ·exact Ch.of rfl rfl rfl rfl rfl rfl rfl rfl rfl rfl rfl rfl
 ·exact cB e k1 k2
def Xp (e:Ev) (h:Ac S) (hn:n<=64) (k1:e.kind≠23) (k2:e.kind≠24):Ch n S (AF n S e).2.2:=by
 unfold AF
 split
 ·exact jG _ _ h
 split
 ·exact KT _ λ_=>sV _ _
 split
 ·exact KT _ λ_=>jH _ _
 split
 ·exact KT _ λ_=>jI _ _ _ h
 split
 ·exact KT _ λ_=>jJ _ _ h
 split
 ·exact AAw _ _ h
 split
 ·exact KT _ λ_=>Ch.refl _ _
 split
 ·exact Xl hn
 ·exact Xo e h k1 k2
def Qa (e:Ev) (k:e.kind=23\/e.kind=24):AF n S e=no (Ck n S (e.kind==23) e.cpu):=by
 unfold AF Ab Au A8
 rcases k with k | k <;> simp [k]
end
structure TV (S:KS) (c:Nat):Prop where
 q:S.q c=[]
 t:S.t c=[]
 wk:Cm.ks S.wk c=[]
 cl:Cm.ks S.cl c=[]
 ob:Hm.ks S.ok c=[]
 r:∀ k,k<16->S.r k≠(c:Int)
structure TW (S:KS) (c d:Nat):Prop where
 q:3<=d->S.q c=[]
 t:4<=d->S.t c=[]
 wk:5<=d->Cm.ks S.wk c=[]
 cl:6<=d->Cm.ks S.cl c=[]
 r:7<=d->∀ k,k<16->S.r k≠(c:Int)
 ob:8<=d->Hm.ks S.ok c=[]
def pw (S:KS) (c:Nat):Bool:=(S.z.getD c (false,false)).1
structure DY (n:Nat) (S:KS) (r:Hp.Rq):Prop where
 c1:0<=r.cpu
 c2:r.cpu<n
 co:tb S.on r.co=true
 ne:r.co≠r.cpu
 d:r.d<=Hp.nn r.up
 db:r.bk=true->r.d<Hp.nn r.up
 up:r.up=true->if r.d=4 then tb S.on r.cpu=true/\S.ac=S.on else tb S.on r.cpu=false/\S.ac=S.on
 dn:r.up=false->if r.d=10 then tb S.on r.cpu=false/\S.ac=S.on else tb S.on r.cpu=true/\S.ac=if 2<=r.d then nt S.on (bv r.cpu) else S.on
 go:r.up=false->r.bk=false->TW S r.cpu.toNat r.d
 pow:∀ c,c<n->tb S.on (c:Int)=false->pw S c=true->r.up=true/\r.cpu=(c:Int)/\2<=r.d
structure JW (n:Nat) (S:KS):Prop where
 on64:S.on<18446744073709551616
 onn:∀ c,tb S.on c=true->c<n
 on0:S.on≠0
 gone:∀ c,c<n->tb S.on (c:Int)=false->TV S c
structure Inv (n:Nat) (S:KS):Prop where
 b:JW n S
 idle:S.R=none->S.ac=S.on/\S.gs=0/\∀ c,c<n->tb S.on (c:Int)=false->pw S c=false
 req:∀ r,S.R=some r->DY n S r/\Rm.ov (Hp.nn r.up) r.d r.bk=false
structure Fx (n:Nat) (S:KS):Prop where
 al:Rqu.Al n S.q
 cl:S.cl.length=n
 z:S.z.length=n
 n64:n<=64
 ct:S.ct.length=n
section
variable {n:Nat} {S T:KS} {r:Hp.Rq}
def cC (h:DY n S r) (c:Int) (e:tb S.ac c=true):tb S.on c=true:=by
 cases u:r.up
 ·have:=h.dn u
  split at this
  ·rw [<- this.2];exact e
  ·obtain ⟨_,q⟩:=this
   split at q
   ·rw [q,I4] at e
    simp only [ADe] at e
    exact e.1
   ·rw [<- q];exact e
 ·have:=h.up u
  split at this <;> (rw [<- this.2];exact e)
def cD (h:DY n S r):tb S.ac r.co=true:=by
 have c:=h.co
 cases u:r.up
 ·have:=h.dn u
  split at this
  ·rw [this.2];exact c
  ·obtain ⟨_,q⟩:=this
   split at q
   ·rw [q,I4,c]
    simp [h.ne]
   ·rw [q];exact c
 ·have:=h.up u
  split at this <;> (rw [this.2];exact c)
def ACT (b:JW n S) (h:DY n S r):S.ac<18446744073709551616:=by
 cases u:r.up
 ·have:=h.dn u
  split at this
  ·rw [this.2];exact b.on64
  ·obtain ⟨_,q⟩:=this
   split at q
   ·rw [q];exact DZ _ _
   ·rw [q];exact b.on64
 ·have:=h.up u
  split at this <;> (rw [this.2];exact b.on64)
def Inv.ac (h:Inv n S):Ac S:=by
 cases e:S.R with
 | none=>unfold Ac;rw [(h.idle e).1];exact ⟨h.b.on64,h.b.on0⟩
 | some r=>
  obtain ⟨q,_⟩:=h.req r e
  exact ⟨ACT h.b q,OJ (cD q)⟩
def Inv.sub (h:Inv n S) (c:Int) (e:tb S.ac c=true):tb S.on c=true:=by
 cases q:S.R with
 | none=>rw [<- (h.idle q).1];exact e
 | some r=>exact cC (h.req r q).1 c e
def Inv.off (h:Inv n S) {c:Int} (e:tb S.on c=false):tb S.ac c=false:=by
 cases q:tb S.ac c
 ·rfl
 ·rw [h.sub c q] at e;cases e
def TV.ch {c:Nat} (h:TV S c) (g:Ch n S T) (hc:c<n) (e:tb S.ac (c:Int)=false):TV T c:=⟨g.q c hc e h.q,g.t c hc e h.t,g.wk c hc e h.wk,g.cl c hc e h.cl,g.ob c hc e h.ob,g.r c hc e h.r⟩
def TW.ch {c d:Nat} (h:TW S c d) (g:Ch n S T) (hc:c<n) (e:3<=d->tb S.ac (c:Int)=false):TW T c d:=
 ⟨λl=>g.q c hc (e l) (h.q l),λl=>g.t c hc (e (by omega)) (h.t l),λl=>g.wk c hc (e (by omega)) (h.wk l),λl=>g.cl c hc (e (by omega)) (h.cl l),λl=>g.r c hc (e (by omega)) (h.r l),λl=>g.ob c hc (e (by omega)) (h.ob l)⟩
def DY.out (h:DY n S r) (u:r.up=false) (d:2<=r.d):tb S.ac r.cpu=false:=by
 have:=h.dn u
 split at this
 ·rw [this.2];exact this.1
 ·obtain ⟨_,q⟩:=this
  have q:S.ac=nt S.on (bv r.cpu):=by simpa [d] using q
  rw [q,I4]
  simp
def ABC {c:Int} (h:0<=c):((c.toNat:Nat):Int)=c:=by omega
def JW.ch (h:JW n S) (g:Ch n S T) (sub:∀ c,tb S.on c=false->tb S.ac c=false):JW n T where
 on64:=by rw [g.on];exact h.on64
 onn:=λc e=>h.onn c (by rw [<- g.on];exact e)
 on0:=by rw [g.on];exact h.on0
 gone:=λc hc e=>by rw [g.on] at e;exact (h.gone c hc e).ch g hc (sub _ e)
def DY.ch (h:DY n S r) (g:Ch n S T):DY n T r where
 c1:=h.c1
 c2:=h.c2
 co:=by rw [g.on];exact h.co
 ne:=h.ne
 d:=h.d
 db:=h.db
 up:=λu=>by rw [g.on,g.ac];exact h.up u
 dn:=λu=>by rw [g.on,g.ac];exact h.dn u
 go:=λu b=>(h.go u b).ch g (by have:=h.c1;have:=h.c2;omega) λl=>by
  rw [ABC h.c1];exact h.out u (by omega)
 pow:=λc hc e p=>by
  rw [g.on] at e
  exact h.pow c hc e (by unfold pw at p ⊢;rw [<- g.z];exact p)
def Inv.ch (h:Inv n S) (g:Ch n S T):Inv n T where
 b:=h.b.ch g λc e=>h.off e
 idle:=λe=>by
  rw [g.R] at e
  obtain ⟨a,b,c⟩:=h.idle e
  refine ⟨by rw [g.ac,g.on];exact a,(g.gs e).trans b,λk hk q=>?_⟩
  rw [g.on] at q
  unfold pw
  rw [g.z]
  exact c k hk q
 req:=λr e=>by
  rw [g.R] at e
  exact ⟨(h.req r e).1.ch g,(h.req r e).2⟩
def Inv.cp (h:Inv n S):-9223372036854775808<=Hp.Bq S.R:=by
 cases e:S.R with
 | none=>simp [Hp.Bq]
 | some r=>
  have:=(h.req r e).1.c1
  simp only [Hp.Bq]
  omega
def tB (h1:1<=n) (h2:n<=64):Inv n (new n) where
 b:=by
  refine ⟨Dy _,λc e=>?_,λe=>?_,λc hc e=>?_⟩
  ·simp only [new] at e
   rw [Nm.GC h2] at e
   simp only [Nm.NC,decide_eq_true_eq] at e
   exact e.2
  ·have:tb (up (n:Int)) 0=true:=by
    rw [Nm.GC h2]
    simp only [Nm.NC,decide_eq_true_eq]
    omega
   simp only [new] at e
   rw [e,Aff.Ou] at this
   cases this
  ·exfalso
   simp only [new] at e
   rw [Nm.GC h2] at e
   simp only [Nm.NC,decide_eq_false_iff_not] at e
   omega
 idle:=λ_=>⟨rfl,rfl,λc hc e=>by
  exfalso
  simp only [new] at e
  rw [Nm.GC h2] at e
  simp only [Nm.NC,decide_eq_false_iff_not] at e
  omega⟩
 req:=λr e=>by cases e
def ACU (h:Inv n S) (hR:S.R=none) {c:Int} (q:tb S.on c=false\/(ls S.on).length≠1):tb S.on (Bk S c)=true/\Bk S c≠c:=by
 have a:=(h.idle hR).1
 have z:nt S.on (bv c)≠0:=by
  rcases q with q | q
  ·rw [MJ _ _ h.b.on64 q];exact h.b.on0
  ·cases e:tb S.on c
   ·rw [MJ _ _ h.b.on64 e];exact h.b.on0
   ·exact AAy h.b.on64 e q
 have:=lV (DZ S.on (bv c)) z
 unfold Bk
 rw [a]
 rw [I4] at this
 simp only [ADe,AHr,decide_eq_false_iff_not] at this
 exact this
def cG (h:Inv n S) (hn:n<=64) (up:Bool) (c:Int):((Ck n S up c).1≠0/\(Ck n S up c).2=S)\/((Ck n S up c).1=0/\S.R=none/\(Ck n S up c).2=Lg S up c/\(Lg S up c).R=some ⟨up,c,Bk S c,0,false,false⟩/\Inv n (Lg S up c)):=by
 unfold Ck
 split
 ·exact Or.inl ⟨by simp,rfl⟩
 rename_i i1
 split
 ·exact Or.inl ⟨by simp,rfl⟩
 rename_i i2
 split
 ·exact Or.inl ⟨by simp,rfl⟩
 rename_i i3
 split
 ·exact Or.inl ⟨by simp,rfl⟩
 rename_i i4
 split
 ·exact Or.inl ⟨by simp,rfl⟩
 rename_i i5
 have hR:S.R=none:=by
  cases e:S.R with
  | none=>rfl
  | some r=>rw [e] at i2;simp at i2
 have hc:0<=c/\c<n:=by
  unfold AJ at i1
  simp at i1
  exact i1
 obtain ⟨a,g,z⟩:=h.idle hR
 have q:=ACU h hR (c:=c) (by
  cases up
  ·right;intro e;exact i5 ⟨rfl,e⟩
  ·left
   cases e:tb S.on c
   ·rfl
   ·exact absurd ⟨rfl,e⟩ i3)
 have y:=h.b.onn _ q.1
 have y2:=Gg q.1
 have be:Hp.BF S.R c (Bk S c)=0:=by
  rw [hR]
  unfold Hp.BF Hp.AJ
  have e1:(decide (0<=c)&&decide (c<64))=true:=by simp;omega
  have e2:(decide (0<=Bk S c)&&decide (Bk S c<64))=true:=by simp;omega
  simp only [e1,e2,Bool.and_self,AHn]
  rw [AHh (λe=>q.2 e.symm)]
 rw [AHi be]
 have bR:(Lg S up c).R=some ⟨up,c,Bk S c,0,false,false⟩:=by
  unfold Lg Hp.EF
  simp only [be,AHn]
 refine Or.inr ⟨by unfold Em.Aa;rw [AHi g],hR,rfl,bR,⟨h.b.on64,h.b.onn,h.b.on0,λk hk e=>⟨(h.b.gone k hk e).q,(h.b.gone k hk e).t,(h.b.gone k hk e).wk,(h.b.gone k hk e).cl,(h.b.gone k hk e).ob,(h.b.gone k hk e).r⟩⟩,λe=>(by rw [bR] at e;cases e),λr e=>?_⟩
 rw [bR] at e
 cases e
 refine ⟨⟨hc.1,hc.2,q.1,q.2,by simp,λe=>(by cases e),λu=>?_,λu=>?_,λ_ _=>⟨λl=>by simp at l,λl=>by simp at l,λl=>by simp at l,λl=>by simp at l,λl=>by simp at l,λl=>by simp at l⟩,λk hk e p=>?_⟩,?_⟩
 ·have u:up=true:=u
  subst u
  rw [AHh (by simp)]
  refine ⟨?_,a⟩
  cases e:tb S.on c
  ·exact e
  ·exact absurd ⟨rfl,e⟩ i3
 ·have u:up=false:=u
  subst u
  rw [AHh (by simp),AHh (by simp)]
  refine ⟨?_,a⟩
  cases e:tb S.on c
  ·exact absurd ⟨rfl,e⟩ i4
  ·exact e
 ·have:=z k hk e
  unfold pw at this p
  have p:(S.z.getD k (false,false)).1=true:=p
  rw [this] at p
  cases p
 ·cases up <;> rfl
end
section
variable {n:Nat} {S T:KS} {r:Hp.Rq} {c b:Int}
def Ch.ofg (h:Ch n S T) (hR:S.R≠none) (g:Int):Ch n S { T with gs:=g }:=⟨h.on,h.ac,h.R,h.ct,λe=>absurd e hR,h.q,h.t,h.wk,h.cl,h.ob,h.r,h.z⟩
def Ch.ofn (h:Ch n S T) (q:∀ s,Bl S.ct s->Bl L s):Ch n S { T with ct:=L }:=⟨h.on,h.ac,h.R,q,h.gs,h.q,h.t,h.wk,h.cl,h.ob,h.r,h.z⟩
def TZ (c:Int):Ch n S (drain n S c):=Ch.ofo (Ch.refl n S) λ_ _ _ e=>ADR e
def Xq (hA:Ac S):Ch n S (Dv n S c b).2:=by
 unfold Dv
 split
 ·split
  ·have q:=Xn (n:=n) c hA (Cl S c)
   exact q.trans (Ch.of rfl rfl rfl rfl rfl rfl rfl rfl rfl rfl rfl rfl)
  ·exact Ch.refl _ _
 ·exact Ch.of rfl rfl rfl rfl rfl rfl rfl rfl rfl rfl rfl rfl
def jM (hA:Ac S):Ch n S (shift n S c).2:=by
 unfold shift
 split
 ·exact Ch.refl _ _
 ·exact Vu _ _ hA
def jN (hA:Ac S) (hb:tb S.ac b=true) (hR:S.R≠none) {k:Int} (k1:k≠1) (k9:k≠9):Ch n S (leave n S k c b).2:=by
 unfold leave
 split
 ·exact Ch.ofg (Ch.refl n S) hR _
 split
 ·exact jM hA
 split
 ·exact Ch.lU (Ch.refl n S) λ_ _ hk e=>ACR hb hk e
 split
 ·exact Ch.ofw (Ch.refl n S) λ_ hn _ e=>AAt hn e
 split
 ·exact Ch.ofc (Ch.refl n S) λ_ _ hk e=>ACS hb hk e
 split
 ·exact Xq hA
 split
 ·exact TZ c
 split
 ·exact Ch.ofn (Ch.refl n S) λs h=>AAz c b h
 ·exact Ch.refl _ _
def tC (al:Rqu.Al n S.q) (h1:0<=c) (h2:c<n) (e:(leave n S 2 c b).1=true):(leave n S 2 c b).2.q c.toNat=[]:=by
 have x:leave n S 2 c b=shift n S c:=by simp [leave]
 rw [x] at e ⊢
 unfold shift at e ⊢
 cases q:Rqu.GD n S.q c with
 | cons i l=>rw [q] at e;cases e
 | nil=>
  simp only
  unfold Rqu.GD at q
  rw [AHi (show Rqu.AJ n c from ⟨h1,h2⟩)] at q
  have o:=al.ok c.toNat (by omega)
  have:=Qm.OU o.rg
  rw [q] at this
  exact ADh this.symm
def tD (h1:0<=c) (h2:c<n) (b1:0<=b) (b2:b<n) (ne:b≠c) (e:(leave n S 3 c b).1=true):(leave n S 3 c b).2.t c.toNat=[]:=by
 have x:leave n S 3 c b=(!(Tim.GQ n S.t c b==0),{ S with t:=Tim.DV n S.t c b }):=by simp [leave]
 rw [x] at e ⊢
 simp only at e ⊢
 unfold Tim.GQ at e
 unfold Tim.DV
 rw [AHi (show Zm.AJ n c/\Zm.AJ n b from ⟨⟨h1,h2⟩,⟨b1,b2⟩⟩)] at e ⊢
 rw [AHh (λq=>ne q.symm)] at e ⊢
 cases q:S.t c.toNat with
 | nil=>exact q
 | cons i l=>rw [q] at e;simp at e
def tF (h1:0<=c) (h2:c<n) (e:(leave n S 4 c b).1=true):Cm.ks (leave n S 4 c b).2.wk c.toNat=[]:=by
 have x:leave n S 4 c b=(!(Cm.Ry n S.wk c==0),{ S with wk:=Cm.Rz n S.wk c }):=by simp [leave]
 rw [x] at e ⊢
 simp only at e ⊢
 have i:Cm.AW n c=true:=AHj ⟨h1,h2⟩
 unfold Cm.Ry Fm.fE at e
 have q:Cm.ks S.wk c.toNat=[]:=by
  rw [AHi i] at e
  split at e
  ·assumption
  ·simp at e
 exact AAt (by omega) q
def tG (hl:S.cl.length=n) (h1:0<=c) (h2:c<n) (b1:0<=b) (b2:b<n) (ne:b≠c) (e:(leave n S 5 c b).1=true):Cm.ks (leave n S 5 c b).2.cl c.toNat=[]:=by
 have x:leave n S 5 c b=(!(Cm.GQ S.cl c b==0),{ S with cl:=Cm.DV S.cl c b }):=by simp [leave]
 rw [x] at e ⊢
 simp only at e ⊢
 have i:Cm.AW S.cl.length c=true:=AHj ⟨h1,by rw [hl];exact h2⟩
 have j:Cm.AW S.cl.length b=true:=AHj ⟨b1,by rw [hl];exact b2⟩
 unfold Cm.GQ Fm.fE at e
 have q:Cm.ks S.cl c.toNat=[]:=by
  rw [AHi ⟨i,j⟩,AHh (λq=>ne q.symm)] at e
  split at e
  ·assumption
  ·simp at e
 unfold Cm.DV
 split
 ·exact jF (by omega) q
 ·exact q
def QN (hc:0<=c):∀ (l:List Int) (S:KS),Ac S->(∀ d,tb S.ac d=true->d<n)->tb S.ac c=false->(∀ x∈l,0<=x/\x<16)->(∀ j:Nat,j<16->S.r j=c->(j:Int)∈l)->∀ j,j<16->(sendAll n S c l).r j≠c
 | [],S,_,_,_,_,h,j,hj=>λe=>by have:=h j hj e;cases this
 | x::l,S,hA,hn,ha,hx,h,j,hj=>by
  have g:=Ic (n:=n) x c hA
  have q:=hx x ADX
  have u:=(Aff.MD (a:=(Bm.Cc S.i x).bs) (c:=c) hA.1 hA.2).1
  have un:=hn _ u
  have ur:=Gg u
  have s:(send n S x c).2.r=Nm.sp S.r x.toNat (Sp S x c):=by
   unfold send
   have e1:Bm.FV x=0:=by unfold Bm.FV Bm.is;simp [q.1,q.2]
   have e2:Nm.Gu n x (Sp S x c)=0:=by
    unfold Nm.Gu Nm.is Nm.NC
    rw [AHi (by simp [q.1,q.2]),AHi]
    exact AHj ⟨ur.1,un⟩
   rw [AHi e1,e2,Nm.Ci]
  refine QN hc l (send n S x c).2 (hA.ch g) (by rw [g.ac];exact hn) (by rw [g.ac];exact ha) (λy hy=>hx y (ADV _ hy)) (λk hk e=>?_) j hj
  rw [s] at e
  by_cases w:k=x.toNat
  ·subst w
   rw [Nm.Fu] at e
   rw [<- e] at ha
   unfold Sp at ha
   rw [u] at ha
   cases ha
  ·rw [Nm.Eb _ w] at e
   rcases AD0.1 (h k hk e) with p | p
   ·omega
   ·exact p
def tH (hA:Ac S) (hn:∀ d,tb S.ac d=true->d<n) (ha:tb S.ac c=false) (hc:0<=c) (e:(leave n S 6 c b).1=true):∀ k,k<16->(leave n S 6 c b).2.r k≠c:=by
 have x:leave n S 6 c b=Dv n S c b:=by simp [leave]
 rw [x] at e ⊢
 unfold Dv at e ⊢
 split at e
 ·rename_i o
  rw [AHi o]
  split at e
  ·rename_i p
   rw [AHi p]
   refine QN hc (Cl S c) S hA hn ha (λy hy=>?_) (λj hj e=>?_)
   ·unfold Cl KK at hy
    simp only [AE6,AD9,ADk] at hy
    obtain ⟨i,⟨hi,_⟩,rfl⟩:=hy
    omega
   ·unfold Cl KK
    simp only [AE6,AD9,ADk]
    exact ⟨j,⟨hj,by rw [Nm.ABe _ _ _ hc,e];simp⟩,rfl⟩
  ·cases e
 ·cases e
def tI (h1:0<=c) (h2:c<n):Hm.ks (leave n S 7 c b).2.ok c.toNat=[]:=by
 have x:leave n S 7 c b=(true,drain n S c):=by simp [leave]
 rw [x]
 show Hm.ks (Hm.H' n S.ok c) c.toNat=[]
 unfold Hm.H'
 have i:Hm.AW n c=true:=AHj ⟨h1,h2⟩
 rw [AHi i]
 exact Vt _ _
def TV.rp {c:Nat} (h:TV S c) (R:Option Hp.Rq) (P:Int->Bool) (g:Int):TV { S with R:=R,P:=P,gs:=g } c:=⟨h.q,h.t,h.wk,h.cl,h.ob,h.r⟩
def TW.rp {c d:Nat} (h:TW S c d) (R:Option Hp.Rq) (P:Int->Bool) (g:Int):TW { S with R:=R,P:=P,gs:=g } c d:=⟨h.q,h.t,h.wk,h.cl,h.r,h.ob⟩
def JW.rp (h:JW n S) (R:Option Hp.Rq) (P:Int->Bool) (g:Int):JW n { S with R:=R,P:=P,gs:=g }:=⟨h.on64,h.onn,h.on0,λc hc e=>(h.gone c hc e).rp R P g⟩
def DY.rp (h:DY n S r) (R:Option Hp.Rq) (P:Int->Bool) (g:Int):DY n { S with R:=R,P:=P,gs:=g } r:=⟨h.c1,h.c2,h.co,h.ne,h.d,h.db,h.up,h.dn,λu b=>(h.go u b).rp R P g,h.pow⟩
def cH (z:List (Bool×Bool)) (c:Int) (on:Bool) (h1:0<=c) (h2:c<z.length):((EH z c on).getD c.toNat (false,false)).1=on:=by
 unfold EH
 have i:Cor.Co.Bt z.length c=true:=by unfold Cor.Co.Bt;simp [h1,h2]
 rw [AHi i]
 split
 ·assumption
 ·rw [ADY,List.getElem?_set_self (by omega)];rfl
def Ta (z:List (Bool×Bool)) (c:Int) (on:Bool) {k:Nat} (h:k≠c.toNat):(EH z c on).getD k (false,false)=z.getD k (false,false):=by
 unfold EH
 split
 ·split
  ·rfl
  ·rw [ADY,AEP (λe=>h e.symm),<- ADY]
 ·rfl
end
structure cI (n:Nat) (S T:KS) (r r':Hp.Rq):Prop where
 R:T.R=some r'
 up:r'.up=r.up
 cpu:r'.cpu=r.cpu
 b:JW n T
 j:DY n T r'
 ct:∀ s,Bl S.ct s->Bl T.ct s
 on:((r'.bk=true\/r'.d≠Hp.nn r'.up)/\T.on=S.on)\/(r'.bk=false/\r'.d=Hp.nn r'.up/\T.on=if tb S.on r.cpu=true then nt S.on (bv r.cpu) else wl S.on [r.cpu])
section
variable {n:Nat} {S T X:KS} {r:Hp.Rq} {c b:Int} {up bk told:Bool} {cpu co:Int} {d:Nat}
def Inv.ADU (h:Inv n S):∀ c,tb S.ac c=true->c<n:=λc e=>h.b.onn c (h.sub c e)
def jO (h:Inv n S) (fx:Fx n S) (hR:S.R=some ⟨up,cpu,co,d,true,told⟩):cI n S (BP n S) ⟨up,cpu,co,d,true,told⟩ ⟨up,cpu,co,d-1,true,false⟩:=by
 obtain ⟨j,o⟩:=h.req _ hR
 have hz:=fx.z
 have c1:=j.c1
 have c2:=j.c2
 have o:(d==0)=false:=o
 have d0:0<d:=by simp at o;omega
 have db:=j.db rfl
 simp only at c1 c2 db
 have A:BP n S=IS (if up=true then J9 (AZ S) ((d-1:Nat):Int) cpu else Sr (AZ S) ((d-1:Nat):Int) cpu):=by
  unfold BP
  have e1:Hp.CV S.R=0:=by rw [hR];simp [Hp.CV,Rm.ov,o]
  have e2:Hp.JO S.P S.R=false:=by rw [hR];simp [Hp.JO,Hp.Gx]
  have e3:Hp.Fa S.R=true:=by rw [hR];simp [Hp.Fa,Rm.ov,o]
  have e4:Hp.FZ S.R=d-1:=by rw [hR];simp [Hp.FZ,Rm.DX]
  have e5:(AZ S).R=some ⟨up,cpu,co,d,true,told⟩:=by unfold AZ;rw [hR];simp [Hp.NT,Hp.IF]
  rw [AHi ⟨e1,e2⟩,e3,e4]
  unfold He
  simp only [AHn,e5,Hp.BC,Hp.Bq]
 have N:∀ U:KS,U.R=some ⟨up,cpu,co,d,true,told⟩->(IS U).R=some ⟨up,cpu,co,d-1,true,false⟩:=λU e=>by
  unfold IS
  simp only [e,Hp.Zl,Rm.E9,Rm.ov,o,AHn,AD3,AHm]
 have e5:(AZ S).R=some ⟨up,cpu,co,d,true,told⟩:=by unfold AZ;rw [hR];simp [Hp.NT,Hp.IF]
 rw [A]
 cases up
 ·simp only [AD3,AHm]
  have dn:=j.dn rfl
  simp only [Hp.nn,AD3,AHm] at db dn
  rw [AHh (by omega)] at dn
  unfold Sr
  by_cases q:d=2
  ·subst q
   rw [AHi (by decide)]
   refine ⟨N _ e5,rfl,rfl,⟨h.b.on64,h.b.onn,h.b.on0,λc hc e=>⟨(h.b.gone c hc e).q,(h.b.gone c hc e).t,(h.b.gone c hc e).wk,(h.b.gone c hc e).cl,(h.b.gone c hc e).ob,(h.b.gone c hc e).r⟩⟩,⟨c1,c2,j.co,j.ne,by simp [Hp.nn],λ_=>by simp [Hp.nn],λu=>(by cases u),λ_=>?_,λ_ e=>(by cases e),λk hk e p=>?_⟩,λs e=>e,Or.inl ⟨Or.inl rfl,rfl⟩⟩
   ·rw [AHh (by simp),AHh (by simp)]
    refine ⟨dn.1,?_⟩
    have a:=dn.2
    rw [AHi (by omega)] at a
    show wl S.ac [cpu]=S.on
    rw [a]
    exact OL h.b.on64 dn.1
   ·have:=(j.pow k hk e p).1
    cases this
  ·rw [AHh (by omega)]
   refine ⟨N _ e5,rfl,rfl,h.b.rp _ _ _,⟨c1,c2,j.co,j.ne,by simp [Hp.nn];omega,λ_=>by simp [Hp.nn];omega,λu=>(by cases u),λ_=>?_,λ_ e=>(by cases e),λk hk e p=>?_⟩,λs e=>e,Or.inl ⟨Or.inl rfl,rfl⟩⟩
   ·simp only
    rw [AHh (by omega)]
    refine ⟨dn.1,?_⟩
    have a:=dn.2
    by_cases w:2<=d
    ·rw [AHi w] at a
     rw [AHi (by omega)]
     exact a
    ·rw [AHh w] at a
     rw [AHh (by omega)]
     exact a
   ·have:=(j.pow k hk e p).1
    cases this
 ·simp only [AHn]
  have u4:=j.up rfl
  simp only [Hp.nn,AHn] at db u4
  rw [AHh (by omega)] at u4
  unfold J9
  by_cases q:d=2
  ·subst q
   rw [AHi (by decide)]
   refine ⟨N _ e5,rfl,rfl,⟨h.b.on64,h.b.onn,h.b.on0,λc hc e=>⟨(h.b.gone c hc e).q,(h.b.gone c hc e).t,(h.b.gone c hc e).wk,(h.b.gone c hc e).cl,(h.b.gone c hc e).ob,(h.b.gone c hc e).r⟩⟩,⟨c1,c2,j.co,j.ne,by simp [Hp.nn],λ_=>by simp [Hp.nn],λ_=>?_,λu=>(by cases u),λu=>(by cases u),λk hk e p=>?_⟩,λs e=>e,Or.inl ⟨Or.inl rfl,rfl⟩⟩
   ·rw [AHh (by simp)]
    exact u4
   ·exfalso
    have p:((EH S.z cpu false).getD k (false,false)).1=true:=p
    by_cases w:k=cpu.toNat
    ·subst w
     rw [cH _ _ _ c1 (by rw [hz];exact c2)] at p
     cases p
    ·rw [Ta _ _ _ w] at p
     have:=(j.pow k hk e p).2.1
     simp only at this
     omega
  ·rw [AHh (by omega)]
   refine ⟨N _ e5,rfl,rfl,h.b.rp _ _ _,⟨c1,c2,j.co,j.ne,by simp [Hp.nn];omega,λ_=>by simp [Hp.nn];omega,λ_=>?_,λu=>(by cases u),λu=>(by cases u),λk hk e p=>?_⟩,λs e=>e,Or.inl ⟨Or.inl rfl,rfl⟩⟩
   ·simp only
    rw [AHh (by omega)]
    exact u4
   ·have:=j.pow k hk e p
    simp only at this
    exact ⟨rfl,this.2.1,by simp only;omega⟩
def jP (h:Inv n S) (hR:S.R=some ⟨up,cpu,co,d,false,told⟩) (f:Hp.Gx S.P ⟨up,cpu,co,d,false,told⟩=true):cI n S (BP n S) ⟨up,cpu,co,d,false,told⟩ ⟨up,cpu,co,d,true,true⟩:=by
 obtain ⟨j,o⟩:=h.req _ hR
 have o:(d==Hp.nn up)=false:=o
 have A:BP n S=AZ S:=by
  unfold BP
  have e2:Hp.JO S.P S.R=true:=by rw [hR];exact f
  rw [AHh (by rw [e2];simp)]
 have e5:(AZ S).R=some ⟨up,cpu,co,d,true,true⟩:=by
  unfold AZ
  rw [hR]
  simp [Hp.NT,Hp.IF,Rm.ov,o,f]
 have dl:d<Hp.nn up:=by
  have:=j.d
  simp at o this
  omega
 rw [A]
 exact ⟨e5,rfl,rfl,h.b.rp _ _ _,⟨j.c1,j.c2,j.co,j.ne,j.d,λ_=>dl,j.up,j.dn,λ_ e=>(by cases e),j.pow⟩,λs e=>e,Or.inl ⟨Or.inl rfl,rfl⟩⟩
def DY.tld (j:DY n S ⟨up,cpu,co,d,bk,told⟩) (t:Bool):DY n S ⟨up,cpu,co,d,bk,t⟩:=⟨j.c1,j.c2,j.co,j.ne,j.d,j.db,j.up,j.dn,j.go,j.pow⟩
def cJ (h:Inv n S) (fx:Fx n S) (hR:S.R=some ⟨false,cpu,co,d,false,told⟩) (f:Hp.Gx S.P ⟨false,cpu,co,d,false,told⟩=false):∃ r',cI n S (BP n S) ⟨false,cpu,co,d,false,told⟩ r':=by
 obtain ⟨j,o⟩:=h.req _ hR
 have hz:=fx.z
 have c1:=j.c1
 have c2:=j.c2
 have o:(d==10)=false:=o
 have d1:d<10:=by
  have:=j.d
  simp [Hp.nn] at o this
  omega
 have dn:=j.dn rfl
 simp only at c1 c2 dn
 rw [AHh (by omega)] at dn
 have e5:(AZ S).R=some ⟨false,cpu,co,d,false,true⟩:=by
  unfold AZ
  rw [hR]
  simp [Hp.NT,Hp.IF,Rm.ov,Hp.nn,o,f]
 have A:BP n S=if (leave n (AZ S) (d:Int) cpu co).1=true then IS (leave n (AZ S) (d:Int) cpu co).2 else (leave n (AZ S) (d:Int) cpu co).2:=by
  unfold BP
  have e1:Hp.CV S.R=0:=by rw [hR];simp [Hp.CV,Rm.ov,Hp.nn,o]
  have e2:Hp.JO S.P S.R=false:=by rw [hR];exact f
  have e3:Hp.Fa S.R=false:=by rw [hR];simp [Hp.Fa]
  have e4:Hp.FZ S.R=d:=by rw [hR];simp [Hp.FZ,Rm.DX,Hp.nn,o]
  rw [AHi ⟨e1,e2⟩,e3,e4]
  unfold He
  simp only [AD3,AHm,e5,Hp.BC,Hp.Bq,Hp.cos]
 have N:∀ U:KS,U.R=some ⟨false,cpu,co,d,false,true⟩->(IS U).R=some ⟨false,cpu,co,d+1,false,false⟩:=λU e=>by
  unfold IS
  simp only [e,Hp.Zl,Rm.E9,Rm.ov,Hp.nn,o,AHn,AD3,AHm]
 have cs:=cD j
 have cr:=Gg cs
 have cn:=h.b.onn _ j.co
 have ne:=j.ne
 simp only at cs cr cn ne
 have b1:JW n (AZ S):=h.b.rp _ _ _
 have j1:DY n (AZ S) ⟨false,cpu,co,d,false,true⟩:=(j.tld true).rp _ _ _
 have hA:Ac (AZ S):=h.ac
 have nR:(AZ S).R≠none:=by rw [e5];simp
 have np:∀ k,k<n->tb S.on (k:Int)=false->pw S k=true->False:=λk hk e p=>by
  have:=(j.pow k hk e p).1
  cases this
 rw [A]
 by_cases q1:d=1
 ·subst q1
  have x:leave n (AZ S) ((1:Nat):Int) cpu co=(true,{ AZ S with ac:=nt S.ac (bv cpu) }):=by simp [leave,AZ]
  rw [x]
  simp only [AHn]
  rw [AHh (by omega)] at dn
  refine ⟨_,N _ e5,rfl,rfl,⟨b1.on64,b1.onn,b1.on0,λc hc e=>⟨(b1.gone c hc e).q,(b1.gone c hc e).t,(b1.gone c hc e).wk,(b1.gone c hc e).cl,(b1.gone c hc e).ob,(b1.gone c hc e).r⟩⟩,⟨c1,c2,j.co,j.ne,by simp [Hp.nn],λe=>by (cases e),λu=>by (cases u),λ_=>?_,λ_ _=>⟨λl=>by simp at l,λl=>by simp at l,λl=>by simp at l,λl=>by simp at l,λl=>by simp at l,λl=>by simp at l⟩,λk hk e p=>(np k hk e p).elim⟩,λs e=>e,Or.inl ⟨Or.inr (by simp [Hp.nn]),rfl⟩⟩
  rw [AHh (by simp),AHi (by simp)]
  refine ⟨dn.1,?_⟩
  show nt S.ac (bv cpu)=nt S.on (bv cpu)
  rw [dn.2]
 by_cases q9:d=9
 ·subst q9
  have x:leave n (AZ S) ((9:Nat):Int) cpu co=(true,{ AZ S with on:=nt S.on (bv cpu),z:=EH S.z cpu false }):=by simp [leave,AZ]
  rw [x]
  simp only [AHn]
  rw [AHi (by omega)] at dn
  have g:=j1.go rfl rfl
  have so:∀ k,tb (nt S.on (bv cpu)) k=(tb S.on k&&!decide (k=cpu)):=λk=>I4 _ _ _
  have co2:tb (nt S.on (bv cpu)) co=true:=by rw [so,j.co];simp [ne]
  refine ⟨_,N _ e5,rfl,rfl,⟨DZ _ _,λk e=>?_,OJ co2,λk hk e=>?_⟩,⟨c1,c2,co2,j.ne,by simp [Hp.nn],λe=>by (cases e),λu=>by (cases u),λ_=>?_,λ_ _=>?_,λk hk e p=>?_⟩,λs e=>e,Or.inr ⟨rfl,by simp [Hp.nn],?_⟩⟩
  ·have e:tb (nt S.on (bv cpu)) k=true:=e
   rw [so] at e
   simp only [ADe] at e
   exact h.b.onn k e.1
  ·have e:tb (nt S.on (bv cpu)) (k:Int)=false:=e
   rw [so] at e
   by_cases w:(k:Int)=cpu
   ·obtain rfl:k=cpu.toNat:=by omega
    exact ⟨g.q (by simp),g.t (by simp),g.wk (by simp),g.cl (by simp),g.ob (by simp),g.r (by simp)⟩
   ·have e:tb S.on (k:Int)=false:=by simpa [w] using e
    have y:=b1.gone k hk e
    exact ⟨y.q,y.t,y.wk,y.cl,y.ob,y.r⟩
  ·rw [AHi (by simp)]
   refine ⟨?_,dn.2⟩
   show tb (nt S.on (bv cpu)) cpu=false
   rw [so]
   simp
  ·exact ⟨λ_=>g.q (by simp),λ_=>g.t (by simp),λ_=>g.wk (by simp),λ_=>g.cl (by simp),λ_=>g.r (by simp),λ_=>g.ob (by simp)⟩
  ·exfalso
   have e:tb (nt S.on (bv cpu)) (k:Int)=false:=e
   have p:((EH S.z cpu false).getD k (false,false)).1=true:=p
   rw [so] at e
   by_cases w:(k:Int)=cpu
   ·obtain rfl:k=cpu.toNat:=by omega
    rw [cH _ _ _ c1 (by rw [hz];exact c2)] at p
    cases p
   ·rw [Ta _ _ _ (by omega)] at p
    exact np k hk (by simpa [w] using e) p
  ·show nt S.on (bv cpu)=_
   rw [AHi dn.1]
 have g:Ch n (AZ S) (leave n (AZ S) (d:Int) cpu co).2:=jN hA cs nR (by omega) (by omega)
 have b2:=b1.ch g λc e=>h.off e
 have j2:=j1.ch g
 have r2:=g.R.trans e5
 split
 ·rename_i e
  refine ⟨_,N _ r2,rfl,rfl,b2.rp _ _ _,DY.rp ?_ _ _ _,g.ct,Or.inl ⟨Or.inr (by simp [Hp.nn];omega),g.on⟩⟩
  refine ⟨c1,c2,j2.co,j.ne,by simp [Hp.nn];omega,λe=>by (cases e),λu=>by (cases u),λ_=>?_,λ_ _=>?_,λk hk e p=>?_⟩
  ·have:=j2.dn rfl
   simp only at this ⊢
   rw [AHh (by omega)] at this ⊢
   refine ⟨this.1,?_⟩
   have a:=this.2
   by_cases w:2<=d
   ·rw [AHi w] at a
    rw [AHi (by omega)]
    exact a
   ·rw [AHh w] at a
    rw [AHh (by omega)]
    exact a
  ·have p:=j2.go rfl rfl
   simp only at p ⊢
   have cc:(((cpu.toNat:Nat):Int))=cpu:=by omega
   have out:2<=d->tb S.ac cpu=false:=λw=>j.out rfl w
   refine ⟨λl=>?_,λl=>?_,λl=>?_,λl=>?_,λl=>?_,λl=>?_⟩
   ·by_cases w:d=2
    ·subst w;exact tC fx.al c1 c2 e
    ·exact p.q (by omega)
   ·by_cases w:d=3
    ·subst w;exact tD c1 c2 cr.1 cn ne e
    ·exact p.t (by omega)
   ·by_cases w:d=4
    ·subst w;exact tF c1 c2 e
    ·exact p.wk (by omega)
   ·by_cases w:d=5
    ·subst w;exact tG fx.cl c1 c2 cr.1 cn ne e
    ·exact p.cl (by omega)
   ·by_cases w:d=6
    ·subst w
     rw [cc]
     exact tH hA h.ADU (out (by omega)) c1 e
    ·exact p.r (by omega)
   ·by_cases w:d=7
    ·subst w;exact tI c1 c2
    ·exact p.ob (by omega)
  ·have:=(j2.pow k hk e p).1
   cases this
 ·exact ⟨_,r2,rfl,rfl,b2,j2,g.ct,Or.inl ⟨Or.inr (by simp [Hp.nn];omega),g.on⟩⟩
def jQ (h:Inv n S) (fx:Fx n S) (hR:S.R=some ⟨true,cpu,co,d,false,told⟩) (f:Hp.Gx S.P ⟨true,cpu,co,d,false,told⟩=false):∃ r',cI n S (BP n S) ⟨true,cpu,co,d,false,told⟩ r':=by
 obtain ⟨j,o⟩:=h.req _ hR
 have hz:=fx.z
 have c1:=j.c1
 have c2:=j.c2
 have n64:=fx.n64
 have o:(d==4)=false:=o
 have d1:d<4:=by
  have:=j.d
  simp [Hp.nn] at o this
  omega
 have u4:=j.up rfl
 simp only at c1 c2 u4
 rw [AHh (by omega)] at u4
 have e5:(AZ S).R=some ⟨true,cpu,co,d,false,true⟩:=by
  unfold AZ
  rw [hR]
  simp [Hp.NT,Hp.IF,Rm.ov,Hp.nn,o,f]
 have A:BP n S=if (Ef n (AZ S) (d:Int) cpu).1=true then IS (Ef n (AZ S) (d:Int) cpu).2 else (Ef n (AZ S) (d:Int) cpu).2:=by
  unfold BP
  have e1:Hp.CV S.R=0:=by rw [hR];simp [Hp.CV,Rm.ov,Hp.nn,o]
  have e2:Hp.JO S.P S.R=false:=by rw [hR];exact f
  have e3:Hp.Fa S.R=false:=by rw [hR];simp [Hp.Fa]
  have e4:Hp.FZ S.R=d:=by rw [hR];simp [Hp.FZ,Rm.DX,Hp.nn,o]
  rw [AHi ⟨e1,e2⟩,e3,e4]
  unfold He
  simp only [AD3,AHm,AHn,e5,Hp.BC,Hp.Bq,Hp.cos]
 have N:∀ U:KS,U.R=some ⟨true,cpu,co,d,false,true⟩->(IS U).R=some ⟨true,cpu,co,d+1,false,false⟩:=λU e=>by
  unfold IS
  simp only [e,Hp.Zl,Rm.E9,Rm.ov,Hp.nn,o,AHn,AD3,AHm]
 have b1:JW n (AZ S):=h.b.rp _ _ _
 have j1:DY n (AZ S) ⟨true,cpu,co,d,false,true⟩:=(j.tld true).rp _ _ _
 have nR:(AZ S).R≠none:=by rw [e5];simp
 rw [A]
 by_cases q1:d=1
 ·subst q1
  have x:Ef n (AZ S) ((1:Nat):Int) cpu=(true,{ AZ S with z:=EH S.z cpu true }):=by simp [Ef,AZ]
  rw [x]
  simp only [AHn]
  refine ⟨_,N _ e5,rfl,rfl,⟨b1.on64,b1.onn,b1.on0,λc hc e=>⟨(b1.gone c hc e).q,(b1.gone c hc e).t,(b1.gone c hc e).wk,(b1.gone c hc e).cl,(b1.gone c hc e).ob,(b1.gone c hc e).r⟩⟩,⟨c1,c2,j.co,j.ne,by simp [Hp.nn],λe=>by (cases e),λ_=>?_,λu=>by (cases u),λu=>by (cases u),λk hk e p=>?_⟩,λs e=>e,Or.inl ⟨Or.inr (by simp [Hp.nn]),rfl⟩⟩
  ·rw [AHh (by simp)]
   exact u4
  ·have p:((EH S.z cpu true).getD k (false,false)).1=true:=p
   by_cases w:k=cpu.toNat
   ·exact ⟨rfl,by simp only;omega,by simp⟩
   ·rw [Ta _ _ _ w] at p
    have:=(j.pow k hk e p).2.1
    simp only at this
    omega
 by_cases q3:d=3
 ·subst q3
  have x:Ef n (AZ S) ((3:Nat):Int) cpu=(true,home n (Hd (AZ S) cpu)):=by simp [Ef]
  rw [x]
  simp only [AHn]
  have so:∀ k,tb (wl S.on [cpu]) k=(tb S.on k || decide (k=cpu)):=λk=>lW _ _ _ c1 (by omega)
  have ea:wl S.ac [cpu]=wl S.on [cpu]:=by rw [u4.2]
  have oc:tb (wl S.on [cpu]) cpu=true:=by rw [so];simp
  have b2:JW n (Hd (AZ S) cpu):=by
   refine ⟨Gh _ _ h.b.on64,λk e=>?_,OJ (show tb (wl S.on [cpu]) cpu=true from oc),λk hk e=>?_⟩
   ·have e:tb (wl S.on [cpu]) k=true:=e
    rw [so] at e
    simp only [Bool.or_eq_true,decide_eq_true_eq] at e
    rcases e with e | e
    ·exact h.b.onn k e
    ·omega
   ·have e:tb (wl S.on [cpu]) (k:Int)=false:=e
    rw [so] at e
    simp only [AF0] at e
    have y:=b1.gone k hk e.1
    exact ⟨y.q,y.t,y.wk,y.cl,y.ob,y.r⟩
  have j2:DY n (Hd (AZ S) cpu) ⟨true,cpu,co,4,false,false⟩:=by
   refine ⟨c1,c2,?_,j.ne,by simp [Hp.nn],λe=>by (cases e),λ_=>?_,λu=>by (cases u),λu=>by (cases u),λk hk e p=>?_⟩
   ·show tb (wl S.on [cpu]) co=true
    rw [so,j.co]
    rfl
   ·rw [AHi rfl]
    exact ⟨oc,ea⟩
   ·exfalso
    have e:tb (wl S.on [cpu]) (k:Int)=false:=e
    rw [so] at e
    simp only [AF0,decide_eq_false_iff_not] at e
    have:=(j.pow k hk e.1 p).2.1
    simp only at this
    exact e.2 this.symm
  have hA:Ac (Hd (AZ S) cpu):=by
   refine ⟨?_,?_⟩
   ·show wl S.ac [cpu]<_
    rw [ea]
    exact Gh _ _ h.b.on64
   ·show wl S.ac [cpu]≠0
    rw [ea]
    exact OJ oc
  have g:=sY (n:=n) hA
  have b3:=b2.ch g λc e=>by
   show tb (wl S.ac [cpu]) c=false
   rw [ea]
   exact e
  have j3:=j2.ch g
  have r2:(home n (Hd (AZ S) cpu)).R=some ⟨true,cpu,co,3,false,true⟩:=g.R.trans e5
  refine ⟨_,N _ r2,rfl,rfl,b3.rp _ _ _,j3.rp _ _ _,g.ct,Or.inr ⟨rfl,by simp [Hp.nn],?_⟩⟩
  show (home n (Hd (AZ S) cpu)).on=_
  rw [g.on]
  show wl S.on [cpu]=_
  rw [AHh (by rw [u4.1];simp)]
 have g:Ch n (AZ S) (Ef n (AZ S) (d:Int) cpu).2:=by
  unfold Ef
  split
  ·exact Ch.ofg (Ch.refl n _) nR _
  split
  ·omega
  split
  ·exact TZ _
  split
  ·omega
  ·exact Ch.refl _ _
 have b2:=b1.ch g λc e=>h.off e
 have j2:=j1.ch g
 have r2:=g.R.trans e5
 split
 ·refine ⟨_,N _ r2,rfl,rfl,b2.rp _ _ _,DY.rp ?_ _ _ _,g.ct,Or.inl ⟨Or.inr (by simp [Hp.nn];omega),g.on⟩⟩
  refine ⟨c1,c2,j2.co,j.ne,by simp [Hp.nn];omega,λe=>by (cases e),λ_=>?_,λu=>by (cases u),λu=>by (cases u),λk hk e p=>?_⟩
  ·have:=j2.up rfl
   simp only at this ⊢
   rw [AHh (by omega)] at this ⊢
   exact this
  ·have:=j2.pow k hk e p
   simp only at this
   exact ⟨rfl,this.2.1,by simp only;omega⟩
 ·exact ⟨_,r2,rfl,rfl,b2,j2,g.ct,Or.inl ⟨Or.inr (by simp [Hp.nn];omega),g.on⟩⟩
def tJ (h:Inv n S) (fx:Fx n S) (hR:S.R=some r):∃ r',cI n S (BP n S) r r':=by
 obtain ⟨up,cpu,co,d,bk,told⟩:=r
 cases bk
 ·cases f:Hp.Gx S.P ⟨up,cpu,co,d,false,told⟩
  ·cases up
   ·exact cJ h fx hR f
   ·exact jQ h fx hR f
  ·exact ⟨_,jP h hR f⟩
 ·exact ⟨_,jO h fx hR⟩
end
def rk (R:Option Hp.Rq):Option (Bool×Int):=R.map λr=>(r.up,r.cpu)
inductive Out (n:Nat) (S:KS) (e:Ev) (T:KS) (L:List Rec):Prop
 | Bc (x:Rec) (hL:L=[x]) (k1:2<=x.kind) (k2:x.kind<=6) (ke:e.kind=1) (hc:x.cpu=e.cpu) (ha:tb S.ac e.cpu=true) (on:T.on=S.on) (R:rk T.R=rk S.R) (ct:∀ s,Bl S.ct s->s<1000000->Bl T.ct (s+1))
 | none (hL:L=[]) (ke:e.kind=1) (on:T.on=S.on) (R:rk T.R=rk S.R) (ct:∀ s,Bl S.ct s->Bl T.ct s)
 | ret (x:Rec) (hL:L=[x]) (k:x.kind=1) (no:¬ ((e.kind=23\/e.kind=24)/\x.why=0)) (on:T.on=S.on) (R:rk T.R=rk S.R) (ct:∀ s,Bl S.ct s->Bl T.ct s)
 | beg (x:Rec) (hL:L=[x]) (k:x.kind=1) (ke:e.kind=23\/e.kind=24) (w:x.why=0) (R0:rk S.R=Option.none) (on:T.on=S.on) (R:rk T.R=some (e.kind==23,e.cpu)) (ct:∀ s,Bl S.ct s->Bl T.ct s)
 | hot (u:Bool) (c w:Int) (hL:L=[⟨7,c,0,0,w⟩]) (ke:e.kind=1) (R0:rk S.R=some (u,c)) (R:T.R=Option.none) (hc:0<=c/\c<n) (on:(w=11/\T.on=S.on)\/(w=0/\T.on=if tb S.on c=true then nt S.on (bv c) else wl S.on [c])) (ct:∀ s,Bl S.ct s->Bl T.ct s)
section
variable {n:Nat} {S T X:KS} {r:Hp.Rq} {c:Int}
def tM (h:Inv n S) (fx:Fx n S) (hR:S.R=some r) (e:Ev) (ke:e.kind=1):Inv n (act n S).2/\Out n S e (act n S).2 (act n S).1:=by
 obtain ⟨r',B⟩:=tJ h fx hR
 have c1:=(h.req r hR).1.c1
 have c2:=(h.req r hR).1.c2
 have j:=B.j
 unfold act
 have e1:Hp.NR (BP n S).R=Rm.ov (Hp.nn r'.up) r'.d r'.bk:=by rw [B.R];rfl
 rw [e1]
 cases o:Rm.ov (Hp.nn r'.up) r'.d r'.bk
 ·simp only [AD3,AHm]
  refine ⟨⟨B.b,λe=>(by rw [B.R] at e;cases e),λq e=>(by rw [B.R] at e;cases e;exact ⟨B.j,o⟩)⟩,Out.none rfl ke ?_ (by rw [B.R,hR];simp [rk,B.up,B.cpu]) B.ct⟩
  rcases B.on with q | q
  ·exact q.2
  ·exfalso
   rw [q.1,q.2.1] at o
   simp [Rm.ov] at o
 ·simp only [AHn]
  have e2:Hp.VL (BP n S).R=none:=by rw [B.R];simp [Hp.VL,o]
  have e3:Hp.Lc (BP n S).R=if r'.bk=true then 11 else 0:=by rw [B.R];simp [Hp.Lc,o]
  have e4:Hp.Bq (BP n S).R=r.cpu:=by rw [B.R];exact B.cpu
  rw [e2,e3,e4]
  refine ⟨⟨B.b.rp _ _ _,λ_=>?_,λq e=>by (cases e)⟩,Out.hot r.up r.cpu _ rfl ke (by rw [hR];rfl) rfl ⟨c1,c2⟩ ?_ B.ct⟩
  ·unfold Rm.ov at o
   have pz:∀ k,k<n->tb (BP n S).on (k:Int)=false->pw (BP n S) k=false:=λk hk e=>by
    cases p:pw (BP n S) k
    ·rfl
    ·exfalso
     obtain ⟨u,v,d⟩:=j.pow k hk e p
     have:=j.up u
     split at o
     ·simp at o;omega
     ·have o:r'.d=Hp.nn r'.up:=by simpa using o
      rw [u] at o
      rw [AHi (by simpa [Hp.nn] using o),v,e] at this
      simp at this
   refine ⟨?_,rfl,pz⟩
   cases u:r'.up
   ·have:=j.dn u
    split at o
    ·have o:r'.d=0:=by simpa using o
     rw [o] at this
     simp at this
     exact this.2
    ·have o:r'.d=Hp.nn r'.up:=by simpa using o
     rw [u] at o
     rw [AHi (by simpa [Hp.nn] using o)] at this
     exact this.2
   ·have:=j.up u
    split at this <;> exact this.2
  ·rcases B.on with q | q
   ·rcases q.1 with w | w
    ·left
     rw [AHi w]
     exact ⟨rfl,q.2⟩
    ·left
     cases b:r'.bk
     ·rw [b] at o
      simp [Rm.ov] at o
      exact absurd o w
     ·exact ⟨rfl,q.2⟩
   ·right
    rw [q.1]
    exact ⟨by simp,q.2.2⟩
def cL (f:Cor.Co.Fl) (q0:¬ Cor.Co.BG f=0) (q2:¬ Cor.Co.BG f=2) (q9:¬ Cor.Co.BG f=9) (q3:¬ Cor.Co.BG f=3):f.act=true/\4<=Cor.Co.BG f/\Cor.Co.BG f<=8:=by
 unfold Cor.Co.BG at *
 cases a1:f.stop
 ·cases a2:f.hot
  ·cases a3:(f.held || !f.act)
   ·have y:f.act=true:=by
     cases y:f.act
     ·rw [y] at a3;simp at a3
     ·rfl
    rw [a1,a2,a3] at q9
    simp only [AD3,AHm] at q9 ⊢
    refine ⟨y,?_⟩
    clear q0 q2 q3 a1 a2 a3 y
    cases b1:f.call
    ·cases b2:f.irq
     ·cases b3:f.timer
      ·cases b4:f.work
       ·cases b5:f.thr
        ·simp [b1,b2,b3,b4,b5] at q9
        ·simp
       ·simp
      ·simp
     ·simp
    ·simp
   ·simp [a1,a2,a3] at q0
  ·simp [a1,a2] at q3
 ·simp [a1] at q2
def cM (f:Cor.Co.Fl) (q3:Cor.Co.BG f=3):f.hot=true:=by
 unfold Cor.Co.BG at q3
 cases a2:f.hot
 ·exfalso
  rw [a2] at q3
  split at q3
  ·omega
  split at q3
  ·contradiction
  split at q3
  ·omega
  split at q3
  ·omega
  split at q3
  ·omega
  split at q3
  ·omega
  split at q3
  ·omega
  split at q3
  ·omega
  ·omega
 ·rfl
def Vv (q0:¬ A0 n S c=0) (q1:¬ A0 n S c=1):A0 n S c=Cor.Co.BG (flags n S c):=by
 unfold A0 Cor.Co.next at *
 cases p:(zc S c).1
 ·rw [p] at q0
  simp at q0
 ·cases i:(zc S c).2
  ·simp
  ·rw [p,i] at q0 q1
   simp only [AHn] at q0 q1
   split at q0
   ·simp at q0
   ·rename_i k
    rw [AHh k] at q1
    simp at q1
def jR (q0:¬ A0 n S c=0) (q1:¬ A0 n S c=1) (q2:¬ A0 n S c=2) (q9:¬ A0 n S c=9) (q3:¬ A0 n S c=3):tb S.ac c=true/\4<=A0 n S c/\A0 n S c<=8:=by
 have e:=Vv q0 q1
 rw [e] at q0 q2 q9 q3 ⊢
 exact cL (flags n S c) q0 q2 q9 q3
def jS (q:A0 n S c=3):S.R.isSome=true:=by
 have e:=Vv (n:=n) (S:=S) (c:=c) (by omega) (by omega)
 rw [e] at q
 have h:=cM _ q
 have h:(S.R.isSome&&Hp.cos S.R==c)=true:=h
 simp only [ADe] at h
 exact h.1
def mA (z:List (Bool×Bool)) (c:Nat) (i:Bool) (k:Nat):((z.set c ((z.getD c (false,false)).1,i)).getD k (false,false)).1=(z.getD k (false,false)).1:=by
 rw [ADY,AD6]
 split
 ·rename_i e
  subst e
  split
  ·rfl
  ·rename_i q
   rw [ADY,ADg (by omega)]
 ·rw [<- ADY]
def Ch.ofz (h:Ch n S T) {z:List (Bool×Bool)} (q:∀ c,(z.getD c (false,false)).1=(S.z.getD c (false,false)).1):Ch n S { T with z:=z }:=⟨h.on,h.ac,h.R,h.ct,h.gs,h.q,h.t,h.wk,h.cl,h.ob,h.r,q⟩
def tP (c:Int):Ch n S (G9 S c):=by
 unfold G9
 split
 ·exact Ch.ofz (Ch.refl n S) λk=>mA S.z c.toNat false k
 ·exact Ch.refl _ _
def tQ (c:Int):Ch n S (En S c):=by
 unfold En
 split
 ·rename_i q
  refine Ch.ofz (Ch.refl n S) λk=>?_
  have:=mA S.z c.toNat true k
  unfold zc at q
  rw [q.1] at this
  exact this
 ·exact Ch.refl _ _
def ABD (c:Int):Ch n S (XE S c):=Ch.of rfl rfl rfl rfl rfl rfl rfl rfl rfl rfl rfl rfl
def ABE (h:Inv n S) (c:Int):Inv n (BI S c) where
 b:=⟨h.b.on64,h.b.onn,h.b.on0,λk hk e=>⟨(h.b.gone k hk e).q,(h.b.gone k hk e).t,(h.b.gone k hk e).wk,(h.b.gone k hk e).cl,(h.b.gone k hk e).ob,(h.b.gone k hk e).r⟩⟩
 idle:=h.idle
 req:=λr e=>⟨⟨(h.req r e).1.c1,(h.req r e).1.c2,(h.req r e).1.co,(h.req r e).1.ne,(h.req r e).1.d,(h.req r e).1.db,(h.req r e).1.up,(h.req r e).1.dn,λu b=>⟨((h.req r e).1.go u b).q,((h.req r e).1.go u b).t,((h.req r e).1.go u b).wk,((h.req r e).1.go u b).cl,((h.req r e).1.go u b).r,((h.req r e).1.go u b).ob⟩,(h.req r e).1.pow⟩,(h.req r e).2⟩
def tR (hA:Ac S) (c:Int):Ch n S (Bz n S c).2.2:=by
 have g:Ch n S (Ha n S c):=Ch.lU (Ch.refl n S) λ_ _ _ e=>ADK e
 unfold Bz
 simp only
 split
 ·exact g.trans (TR _ _ (hA.ch g))
 ·exact g
def jT (hA:Ac S) (wh c:Int):Ch n (BI S c) (Bc n S wh c).2:=by
 have hA2:Ac (BI S c):=hA
 unfold Bc
 split
 ·exact Ch.ofc (Ch.refl n _) λ_ _ _ e=>ADO e
 split
 ·exact Ch.of rfl rfl rfl rfl rfl rfl rfl rfl rfl rfl rfl rfl
 split
 ·exact tR hA2 c
 split
 ·exact Ch.ofw (Ch.refl n _) λ_ _ _ e=>ADM e
 split
 ·exact Ch.bU (Ch.refl n _) λ_ _ _ e=>ADH e
 ·exact Ch.refl _ _
def cO {wh:Int} (h1:4<=wh) (h2:wh<=8):2<=(Bc n S wh c).1.kind/\(Bc n S wh c).1.kind<=6/\(Bc n S wh c).1.cpu=c:=by
 unfold Bc
 split
 ·simp
 split
 ·simp
 split
 ·simp
 split
 ·simp
 split
 ·simp
 ·omega
def jU (h:Inv n S) (fx:Fx n S) (e:Ev) (ke:e.kind=1) (hc:AJ n e.cpu=true):Inv n (step n S e.cpu).2/\Out n S e (step n S e.cpu).2 (step n S e.cpu).1:=by
 have N:∀ T,Ch n S T->Inv n T/\Out n S e T []:=λT g=>⟨h.ch g,Out.none rfl ke g.on (by rw [g.R]) g.ct⟩
 unfold step
 split
 ·exact N _ (Ch.refl _ _)
 rename_i q0
 split
 ·exact N _ (tP _)
 rename_i q1
 split
 ·exact N _ (ABD _)
 rename_i q2
 split
 ·exact N _ (tQ _)
 rename_i q9
 split
 ·rename_i q3
  cases hR:S.R with
  | none=>have:=jS q3;rw [hR] at this;cases this
  | some r=>exact tM h fx hR e ke
 rename_i q3
 obtain ⟨ha,w1,w2⟩:=jR q0 q1 q2 q9 q3
 have g:=jT (n:=n) h.ac (A0 n S e.cpu) e.cpu
 have k:=cO (n:=n) (S:=S) (c:=e.cpu) w1 w2
 have cc:0<=e.cpu/\e.cpu<n:=by
  unfold AJ at hc
  simp at hc
  exact hc
 exact ⟨(ABE h e.cpu).ch g,Out.Bc _ rfl k.1 k.2.1 ke k.2.2 ha g.on (by rw [g.R];rfl) λs q hs=>g.ct _ (ABA q cc.1 (by rw [fx.ct];exact cc.2) hs)⟩
def tU (h:Inv n S) (fx:Fx n S) (e:Ev):Inv n (KG n S e).2/\Out n S e (KG n S e).2 (KG n S e).1:=by
 unfold KG
 split
 ·rename_i q
  exact jU h fx e q.1 q.2
 ·by_cases k:e.kind=23\/e.kind=24
  ·rw [Qa e k]
   unfold no
   simp only
   rcases cG h fx.n64 (e.kind==23) e.cpu with ⟨w,t⟩ | ⟨w,R0,t,bR,i⟩
   ·rw [t]
    exact ⟨h,Out.ret _ rfl rfl (λq=>w q.2) rfl rfl λs q=>q⟩
   ·rw [t]
    exact ⟨i,Out.beg _ rfl rfl k w (by rw [R0];rfl) rfl (by rw [bR];rfl) λs q=>q⟩
  ·have g:=Xp (n:=n) e h.ac fx.n64 (λq=>k (Or.inl q)) (λq=>k (Or.inr q))
   exact ⟨h.ch g,Out.ret _ rfl rfl (λq=>k q.1) g.on (by rw [g.R]) g.ct⟩
end
open Go.ChangeShapes Go.WideShapes Go.ChangeAt Go.RowKit
section
variable {B:Nat} {w0:World} {A:List (Nat×List Value×TypeId)} {a:KA} {m m':Nat} {S S':KS} {w w':World}
def ACV (h:KX B w0 A a m S w):Fx a.n S:=by
 obtain ⟨F,K,_⟩:=h.ex
 have p2:=K.p 2 (by decide)
 have p7:=K.p 7 (by decide)
 have p9:=K.p 9 (by decide)
 have p13:=K.p 13 (by decide)
 simp only [Part] at p2 p7 p9 p13
 obtain ⟨g,_,l9,_⟩:=p9
 obtain ⟨g2,Y,_,_,l13,_⟩:=p13
 exact ⟨p2.1.al,p7.2.1,l13,h.n2,l9⟩
def Tb {b c:Nat} {x:Rec} (h1:AB w b (rc x) 37) (h2:AB w c (rc x) 37):Calls prog 39 #[.slice (some ⟨b,0,none⟩) 1 1,.slice (some ⟨c,0,none⟩) 1 1] w λe w'=>e=.returned (.bool true)/\Sm w' w:=by
 obtain ⟨c0,c1,c2,c3,c4⟩:=Aq (b:=b) h1
 obtain ⟨d0,d1,d2,d3,d4⟩:=Aq (b:=c) h2
 clear h1 h2
 go_enter func39,ntmps39
 go_wp2
 go_loopw [5] (λi wr=>∃ k q:Nat,(k:Int)<=1/\wr=w.drewN q/\i=.int .i64 k) (λi _=>1-(intOf i).toNat)
 case atStart=>exact ⟨0,0,by omega,rfl,rfl⟩
 case round=>
  obtain ⟨k,q,hk,rfl,rfl⟩:=hrel
  by_cases h:(k:Int)<1
  ·obtain rfl:k=0:=by omega
   go_wp2
   go_quiet (fail)
   go_wp2
   go_roundw
   case rel=>exact ⟨1,_,by omega,rfl,by go_num⟩
   case measure=>simp [intOf]
  ·go_wp2
   go_ret
   exact ⟨rfl,rfl,rfl,rfl,rfl⟩
end
def kv1:Ev:=⟨3,0,3,1,0⟩
def kv2:Ev:=⟨1,0,0,0,0⟩
def mB:KS:=(KG 2 (new 2) kv1).2
def ks2:KS:=(KG 2 mB kv2).2
def kr1:(KG 2 (new 2) kv1).1=[⟨1,0,1,0,0⟩]:=by kernel_rfl
def kr2:(KG 2 mB kv2).1=[⟨2,0,1,0,0⟩]:=by kernel_rfl
def ABI:ks2.on=3:=by kernel_rfl
def ABJ:-9223372036854775808<=Hp.Bq mB.R:=by decide +kernel
def ok1:AI kv1:=⟨by unfold wf;kernel_rfl,by unfold wf;kernel_rfl,by unfold wf;kernel_rfl,by unfold wf;kernel_rfl,by decide⟩
def ok2:AI kv2:=⟨by unfold wf;kernel_rfl,by unfold wf;kernel_rfl,by unfold wf;kernel_rfl,by unfold wf;kernel_rfl,by decide⟩
def cP (w:World) (T:A9 w) (hs:1<=w.heap.size):Calls prog 8 #[] w λe w'=>e=.returned (.bool true)/\Below w.heap.size w w':=by
 obtain ⟨z,hz⟩:∃ z,Hid (z=w.heap.size):=⟨_,rfl⟩
 have CN:Hid (∀ _:Unit,_):=λ_=>lT 2 w T hs (by decide) (by decide)
 go_enter func8,ntmps8
 go_wp2_with fail
 refine (CN.out ()).mono ?_
 rintro e w1 ⟨a,rfl,an,h1⟩
 have C1:Hid (∀ _:Unit,_):=λ_=>jE h1 ok1 (by simp [new,Hp.Bq]) (by decide)
 rw [an,kr1] at C1
 go_wp2_with fail
 refine (C1.out ()).mono ?_
 rintro e w2 ⟨v2,X2,rfl,h2,r2⟩
 rcases r2 with ⟨_,q,_⟩ | ⟨b2,r,rfl,q,rfl⟩
 ·cases q
 cases q
 have C2:Hid (∀ _:Unit,_):=λ_=>jE (S:=mB) h2 ok2 ABJ (by decide)
 rw [an,kr2] at C2
 go_wp2_with fail
 refine (C2.out ()).mono ?_
 rintro e w3 ⟨v3,X3,rfl,h3,r3⟩
 rcases r3 with ⟨_,q,_⟩ | ⟨b3,r,rfl,q,rfl⟩
 ·cases q
 cases q
 have h3:KX w.heap.size w [(b3,rc ⟨2,0,1,0,0⟩,37),(b2,rc ⟨1,0,1,0,0⟩,37)] a (0+64+64) ks2 w3:=h3
 have HB:Hid (KX w.heap.size w [(b3,rc ⟨2,0,1,0,0⟩,37),(b2,rc ⟨1,0,1,0,0⟩,37)] a (0+64+64) ks2 w3):=h3
 clear C1 C2 h1 h2 CN
 have h4:=h3.new (rc ⟨1,0,1,0,0⟩) 37
 have C3:Hid (∀ _:Unit,_):=λ_=>Tb (h4.bx (b2,rc ⟨1,0,1,0,0⟩,37) (by simp)) h4.AC
 go_wp2_with fail
 refine (C3.out ()).mono ?_
 rintro e w4 ⟨rfl,s4⟩
 have h5:=(h4.sm s4).new (rc ⟨2,0,1,0,0⟩) 37
 have C4:Hid (∀ _:Unit,_):=λ_=>Tb (h5.bx (b3,rc ⟨2,0,1,0,0⟩,37) (by simp)) h5.AC
 go_wp2_with fail
 refine (C4.out ()).mono ?_
 rintro e w5 ⟨rfl,s5⟩
 have h6:=h5.sm s5
 have C5:Hid (∀ _:Unit,_):=λ_=>iC h6
 rw [ABI] at C5
 go_wp2_with fail
 refine (C5.out ()).mono ?_
 rintro e w6 ⟨rfl,rfl⟩
 go_wp2
 go_ret
 exact ⟨rfl,h6.bel⟩
structure LI (n:Nat) (w:World) (a:KA) (k:Nat) (X:List (Nat×List Value×TypeId)) (S:KS) (wr:World):Prop where
 kx:KX w.heap.size w X a (64*k) S wr
 inv:Inv n S
 an:a.n=n
section
variable {n k:Nat} {w wr w':World} {a:KA} {X:List (Nat×List Value×TypeId)} {S T:KS}
def LI.sub (h:LI n w a k X S wr):LI n w a k [] S wr:=⟨h.kx.sub (λ_ h=>by cases h),h.inv,h.an⟩
def LI.bel (h:LI n w a k X S wr):Below w.heap.size w wr:=h.kx.bel
def ABK (h:KX w.heap.size w [] a 0 (new n) wr) (an:a.n=n) (h1:1<=n) (h2:n<=64):LI n w a 0 [] (new n) wr:=⟨h,tB h1 h2,an⟩
def ACW (h:LI n w a k X S wr) (hk:k<300) {e:Ev} (ok:AI e):Calls prog 10 #[.pointer (some ⟨a.k,0,none⟩),.agg #[.int .i64 e.kind,.int .i64 e.cpu,.int .i64 e.id,.int .u64 (e.mask:Int),.int .i64 e.n]] wr λx w'=>∃ v Y T L,x=.returned v/\LI n w a (k+1) Y T w'/\Rr Y v L/\Out n S e T L:=by
 obtain ⟨kx,inv,rfl⟩:=h
 have kx0:KX w.heap.size w [] a (64*k) S wr:=kx.sub (λ_ h=>by cases h)
 refine (jE kx0 ok inv.cp (by omega)).mono ?_
 rintro x w2 ⟨v,Y,rfl,h2,r2⟩
 obtain ⟨i2,o2⟩:=tU inv (ACV kx) e
 refine ⟨v,Y,_,_,rfl,⟨?_,i2,rfl⟩,r2,o2⟩
 rw [AFl] at h2
 rw [show 64*(k+1)=64*k+64 by omega]
 exact h2
def cQ (c:Int) (w:World) (h:c<1\/(1<=c/\64<c)):Calls prog 7 #[.int .i64 c] w λe w'=>e=.returned (.tuple #[.pointer none,.int .i64 2])/\w'=w:=by
 rcases h with h | ⟨h,h2⟩
 ·go_enter func7,ntmps7
  go_wp2
  go_ret2
  exact ⟨rfl,rfl⟩
 ·go_enter func7,ntmps7
  go_wp2
  go_ret2
  exact ⟨rfl,rfl⟩
def cR {r:Rec} (w:World) (h1:2<=r.kind) (h2:r.kind<=6):Calls prog 11 #[.agg #[.int .i64 r.kind,.int .i64 r.cpu,.int .i64 r.id,.int .i64 r.n,.int .i64 r.why]] w λe w'=>e=.returned (.bool true)/\Below w.heap.size w w':=by
 obtain ⟨r0,r1,r2,r3,r4⟩:=r
 simp only at *
 have B:Hid (Below w.heap.size w (w.alloc (.cells #[.int .i64 r0,.int .i64 r1,.int .i64 r2,.int .i64 r3,.int .i64 r4] 37))):=(Below.refl _ _).alloc (ADW _) _
 go_enter func11,ntmps11
 go_wp2
 go_ret
 exact ⟨rfl,B.out⟩
def jV {r:Rec} (w:World) (h1:r.kind=1\/r.kind=7):Calls prog 11 #[.agg #[.int .i64 r.kind,.int .i64 r.cpu,.int .i64 r.id,.int .i64 r.n,.int .i64 r.why]] w λe w'=>e=.returned (.bool false)/\Below w.heap.size w w':=by
 obtain ⟨r0,r1,r2,r3,r4⟩:=r
 simp only at *
 rcases h1 with rfl | rfl
 ·have B:Hid (Below w.heap.size w (w.alloc (.cells #[.int .i64 1,.int .i64 r1,.int .i64 r2,.int .i64 r3,.int .i64 r4] 37))):=(Below.refl _ _).alloc (ADW _) _
  go_enter func11,ntmps11
  go_wp2
  go_ret
  exact ⟨rfl,B.out⟩
 ·have B:Hid (Below w.heap.size w (w.alloc (.cells #[.int .i64 7,.int .i64 r1,.int .i64 r2,.int .i64 r3,.int .i64 r4] 37))):=(Below.refl _ _).alloc (ADW _) _
  go_enter func11,ntmps11
  go_wp2
  go_ret
  exact ⟨rfl,B.out⟩
def ACY {x:Int} (h:(Lit.int .i64 x).wf=true):-9223372036854775808<=x/\x<=9223372036854775807:=by
 simp [Lit.wf,IntKind.min,IntKind.max,IntKind.signed,IntKind.bits] at h
 omega
end
end Go.Proofs.YtdlhlfpigcgapaaGreatDoor.Krn

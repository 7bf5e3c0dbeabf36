import Derived.Test.YtdlhlfpigcgapaaGreatDoorAZal
import Derived.Test.YtdlhlfpigcgapaaGreatDoorAXa
import Derived.Deep.RegionHeld3
set_option maxRecDepth 100000
set_option maxHeartbeats 16000000
set_option linter.unusedVariables false
set_option linter.unusedSimpArgs false
set_option linter.defProp false
namespace Go.Proofs.YtdlhlfpigcgapaaGreatDoor.Fm
open Go.Proofs.Tryz
variable {f gap k m:Nat} {L r:List Int}
def pl (m f k:Nat):Nat:=if f+k<m then f+k else f+k-m
def ix (L:List Int) (n:Int):Int:=if n∈L then (L.idxOf n:Nat) else -1
def Ho (L:List Int) (k:Nat) (h:k<L.length):L.getD k 0=L[k]:=by simp [List.getD,h]
def Q9 (A B:List Int) (hl:A.length=B.length) (h:∀ i,i<A.length->A.getD i 0=B.getD i 0):A=B:=by
 apply List.ext_getElem hl
 intro i h1 h2
 have:=h i h1
 rwa [Ho A i h1,Ho B i h2] at this
def Lm (L:List Int) (n:Int):n∈L↔∃ k,k<L.length/\L.getD k 0=n:=by
 rw [AEe]
 constructor
 ·rintro ⟨k,h,e⟩
  exact ⟨k,h,by rw [Ho L k h];exact e⟩
 ·rintro ⟨k,h,e⟩
  exact ⟨k,h,by rw [Ho L k h] at e;exact e⟩
def PC:∀ (L:List Int) (n:Int) (k:Nat),k<L.length->L.getD k 0=n->(∀ j,j<k->L.getD j 0≠n)->L.idxOf n=k
 | [],_,k,h,_,_=>by simp at h
 | a::r,n,0,_,e,_=>by
  have:a=n:=by simpa using e
  subst this
  simp
 | a::r,n,k+1,h,e,f=>by
  have hne:a≠n:=by simpa using f 0 (by omega)
  have ih:=PC r n k (by simpa using h) (by simpa using e) λj hj=>by simpa using f (j+1) (by omega)
  rw [List.idxOf_cons,show (a==n)=false by simpa using hne]
  simp only [cond_false,ih]
def MR:∀ (L:List Int) (n:Int) (j:Nat),j<L.idxOf n->j<L.length->L.getD j 0≠n
 | [],_,j,_,h=>by simp at h
 | a::r,n,0,h,_=>by
  intro e
  have:a=n:=by simpa using e
  subst this
  simp at h
 | a::r,n,j+1,h,h2=>by
  rw [List.idxOf_cons] at h
  have h3:j<r.idxOf n:=by
   by_cases c:a=n
   ·rw [show (a==n)=true by simpa using c] at h
    simp only [cond_true] at h
    omega
   ·rw [show (a==n)=false by simpa using c] at h
    simp only [cond_false] at h
    omega
  simpa using MR r n j h3 (by simpa using h2)
def Q' (L:List Int) (n:Int) (k:Nat) (h:k<L.length) (e:L.getD k 0=n) (f:∀ j,j<k->L.getD j 0≠n):ix L n=k:=by
 unfold ix
 rw [AHi ((Lm L n).2 ⟨k,h,e⟩)]
 rw [PC L n k h e f]
def mL (L:List Int) (n:Int) (f:∀ j,j<L.length->L.getD j 0≠n):ix L n=-1:=by
 unfold ix
 rw [AHh]
 intro h
 obtain ⟨k,hk,e⟩:=(Lm L n).1 h
 exact f k hk e
def Ex (L:List Int) (n:Int) (h:n∉L):ix L n=-1:=AHh h
def JZ (L:List Int) (n:Int) (h:n∈L):∃ k:Nat,ix L n=k/\k<L.length/\L.getD k 0=n/\∀ j,j<k->L.getD j 0≠n:=by
 have hl:L.idxOf n<L.length:=List.idxOf_lt_length_of_mem h
 refine ⟨L.idxOf n,AHi h,hl,?_,λj hj=>?_⟩
 ·rw [Ho L _ hl]
  exact List.getElem_idxOf hl
 ·exact MR L n j hj (by omega)
def Cb (A B:List Int) (j:Nat) (h:j<A.length):(A++B).getD j 0=A.getD j 0:=by
 simp [List.getD,ADl h]
def DB (A B:List Int) (j:Nat) (h:A.length<=j):(A++B).getD j 0=B.getD (j-A.length) 0:=by
 simp [List.getD,ADj h]
def Tg (A B:List Int) (n:Int) (h:n∈A):ix (A++B) n=ix A n:=by
 obtain ⟨k,e,hk,g,f⟩:=JZ A n h
 rw [e]
 exact Q' _ _ _ (by simp;omega) (by rw [Cb _ _ _ hk];exact g) λj hj=>by rw [Cb _ _ _ (by omega)];exact f j hj
def RC (A B:List Int) (n:Int) (h:n∉A) (h2:n∈B):ix (A++B) n=A.length+ix B n:=by
 obtain ⟨k,e,hk,g,f⟩:=JZ B n h2
 rw [e]
 have:=Q' (A++B) n (A.length+k) (by simp;omega) (by rw [DB _ _ _ (by omega),show A.length+k-A.length=k by omega];exact g) λj hj=>by
  by_cases c:j<A.length
  ·rw [Cb _ _ _ c]
   intro e2
   exact h ((Lm A n).2 ⟨j,c,e2⟩)
  ·rw [DB _ _ _ (by omega)]
   exact f _ (by omega)
 rw [this]
 omega
structure Rg (m f:Nat) (r L:List Int):Prop where
 len:r.length=m
 m1:1<=m
 m2:m<=1024
 hf:f<m
 hc:L.length<=m
 at':∀ k,k<L.length->r.getD (pl m f k) 0=L.getD k 0
def Bx (r:List Int) (p q:Nat) (n:Int) (hp:p<r.length):(r.set p n).getD q 0=if q=p then n else r.getD q 0:=by
 simp only [List.getD,AD6]
 by_cases h:p=q
 ·subst h;simp [hp]
 ·have:¬ q=p:=λe=>h e.symm
  simp [h,this]
def Kb (hf:f<m) (hk:k<=m):pl m f k<m:=by unfold pl;split <;> omega
def RF {j:Nat} (_:f<m) (hj:j<m) (hk:k<m) (h:pl m f j=pl m f k):j=k:=by
 unfold pl at h
 split at h <;> split at h <;> omega
def ABW (hf:f<m) (hk:k+1<m):pl m (pl m f 1) k=pl m f (k+1):=by
 unfold pl
 split <;> split <;> split <;> omega
def uK (m:Nat) (h1:1<=m) (h2:m<=1024):Rg m 0 (List.replicate m 0) []:=
 ⟨by simp,h1,h2,by omega,by simp,λk hk=>by simp at hk⟩
def mM (h:Rg m f r L) (n:Int) (hc:L.length<m):Rg m f (r.set (pl m f L.length) n) (L++[n]):=by
 have hp:=Kb (k:=L.length) h.hf (by omega)
 refine ⟨by simp [h.len],h.m1,h.m2,h.hf,by simp;omega,λk hk=>?_⟩
 rw [Bx _ _ _ _ (by rw [h.len];exact hp)]
 by_cases c:k=L.length
 ·subst c
  rw [AHi rfl,DB _ _ _ (ADW _)]
  simp
 ·have hk2:k<L.length:=by simp at hk;omega
  rw [AHh,Cb _ _ _ hk2]
  ·exact h.at' k hk2
  ·intro e
   have:=RF h.hf (by omega) hc e
   omega
def YB (L:List Int) (k:Nat):L.tail.getD k 0=L.getD (k+1) 0:=by
 cases L <;> simp [List.getD]
def uL (h:Rg m f r L) (hc:0<L.length):Rg m (pl m f 1) r L.tail:=by
 have hl:L.tail.length=L.length-1:=by simp
 have:=h.hc
 refine ⟨h.len,h.m1,h.m2,Kb h.hf h.m1,by omega,λk hk=>?_⟩
 rw [ABW h.hf (by omega),YB]
 exact h.at' (k+1) (by omega)
structure Dr (m f:Nat) (r L:List Int) (gap k:Nat):Prop where
 len:r.length=m
 at':∀ j,j<L.length->r.getD (pl m f j) 0=if gap<=j/\j<gap+k then L.getD (j+1) 0 else L.getD j 0
def dC (h:Rg m f r L) (gap:Nat):Dr m f r L gap 0:=
 ⟨h.len,λj hj=>by rw [AHh (by omega)];exact h.at' j hj⟩
def mN (h:Dr m f r L gap k) (hf:f<m) (hL:L.length<=m) (hk:gap+k+1<L.length):
 Dr m f (r.set (pl m f (gap+k)) (r.getD (pl m f (gap+k+1)) 0)) L gap (k+1):=by
 refine ⟨by simp [h.len],λj hj=>?_⟩
 rw [Bx _ _ _ _ (by rw [h.len];exact Kb hf (by omega))]
 by_cases c:j=gap+k
 ·subst c
  rw [AHi rfl,AHi (by omega),h.at' _ hk,AHh (by omega)]
 ·rw [AHh,h.at' j hj]
  ·by_cases d:gap<=j/\j<gap+k
   ·rw [AHi d,AHi (by omega)]
   ·rw [AHh d,AHh (by omega)]
  ·intro e
   exact c (RF hf (by omega) (by omega) e)
def QO (L:List Int) (gap j:Nat):(L.eraseIdx gap).getD j 0=if j<gap then L.getD j 0 else L.getD (j+1) 0:=by
 simp only [List.getD,List.getElem?_eraseIdx]
 split <;> rfl
def uM (h:Dr m f r L gap k) (hr:1<=m/\m<=1024/\f<m/\L.length<=m) (hg:gap<L.length) (hk:gap+k+1=L.length):Rg m f r (L.eraseIdx gap):=by
 have hl:(L.eraseIdx gap).length=L.length-1:=List.length_eraseIdx_of_lt hg
 refine ⟨h.len,hr.1,hr.2.1,hr.2.2.1,by omega,λj hj=>?_⟩
 rw [h.at' j (by omega),QO]
 by_cases c:gap<=j
 ·rw [AHi (by omega),AHh (by omega)]
 ·rw [AHh (by omega),AHi (by omega)]
def uN (h:Rg m f r L) (hc:f+L.length<=m):(r.drop f).take L.length=L:=by
 have hl:((r.drop f).take L.length).length=L.length:=by simp [h.len];omega
 apply Q9 _ _ hl
 intro i hi
 rw [hl] at hi
 rw [<- h.at' i hi]
 simp only [List.getD,ADm,AHi hi,AE0]
 rw [show pl m f i=f+i from AHi (by omega)]
def uO (h:Rg m f r L) (hc:m<f+L.length):(r.drop f).take (m-f)++(r.drop 0).take (f+L.length-m)=L:=by
 have hm:=h.hf
 have hh:=h.hc
 have l1:((r.drop f).take (m-f)).length=m-f:=by simp [h.len]
 have l2:((r.drop 0).take (f+L.length-m)).length=f+L.length-m:=by simp [h.len];omega
 have hl:((r.drop f).take (m-f)++(r.drop 0).take (f+L.length-m)).length=L.length:=by rw [ADa,l1,l2];omega
 apply Q9 _ _ hl
 intro i hi
 rw [hl] at hi
 rw [<- h.at' i hi]
 by_cases c:i<m-f
 ·rw [Cb _ _ _ (by rw [l1];exact c)]
  simp only [List.getD,ADm,AHi c,AE0]
  rw [show pl m f i=f+i from AHi (by omega)]
 ·rw [DB _ _ _ (by rw [l1];omega),l1]
  simp only [List.getD,ADm,AE0]
  rw [AHi (by omega),show pl m f i=f+i-m from AHh (by omega),show 0+(i-(m-f))=f+i-m by omega]
def pE (m:Nat) (L:List Int) (n:Int):Int:=if n∈L then 6 else if m<=L.length then 5 else 0
def pL (m:Nat) (L:List Int) (n:Int):List Int:=if n∈L then L else if m<=L.length then L else L++[n]
def fE (L:List Int):Int:=if L=[] then 12 else 0
def dE (L:List Int) (n:Int):Int:=if n∈L then 0 else 4
def wo (L:List Int) (n:Int):List Int:=L.filter λx=>x !=n
def tL (L:List Int):List Int:=L.tail++L.take 1
def dD (L:List Int) (n:Int) (h:L.Nodup) (gap:Nat) (e:ix L n=gap):L.eraseIdx gap=wo L n:=by
 have hm:n∈L:=by
  apply Classical.byContradiction
  intro c
  rw [Ex L n c] at e
  omega
 have:gap=L.idxOf n:=by
  unfold ix at e
  rw [AHi hm] at e
  omega
 subst this
 rw [<- List.erase_eq_eraseIdx_of_idxOf (l:=L) (a:=n) (i:=L.idxOf n) rfl,h.erase_eq_filter]
 rfl
def Kd (L:List Int) (n:Int) (h:n∉L):wo L n=L:=by
 unfold wo
 rw [AEL]
 intro x hx
 simp
 intro e
 exact h (e ▸ hx)
def UX (L:List Int) (n:Int) (h:(n::L).Nodup):wo (n::L) n=L:=by
 rw [AF7] at h
 unfold wo
 rw [AE4]
 simp
 intro a ha e
 exact h.1 (e ▸ ha)
def Ln (L:List Int) (n:Int) (h:L.Nodup):(wo L n).Nodup:=AFX _ h
def V3 (L:List Int) (n:Int):n∉wo L n:=by
 unfold wo
 simp
end Go.Proofs.YtdlhlfpigcgapaaGreatDoor.Fm
namespace Go.Proofs.YtdlhlfpigcgapaaGreatDoor.Fif
open Go.Proofs.Tryz
open Go.ChangeShapes Go.WideShapes Go.ChangeAt Go.RowKit
open Fm
variable {w w1 wr:World} {b f g gap k m:Nat} {L r rr:List Int}
def PF (xs:List Int) (v:Value) (n:Int) (w:World) (hl:(xs.length:Int)<=100000) (hr:Row w v xs):
 Calls prog 347 #[v,.int .i64 n] w λe w'=>e=.returned (.int .i64 (ix xs n))/\w'=w:=by
 rcases hr with ⟨rfl,a,cap,rfl⟩ | ⟨b,off,cap,rfl,_,hc⟩
 ·rw [show ix [] n=-1 from rfl]
  clear hl
  go_enter func347,ntmps347
  go_wp2
  go_loop [8] (λi=>i=.int .i64 0) (λ_=>0)
  case atStart=>rfl
  case round=>
   obtain rfl:=hrel
   go_wp2
   go_ret
   exact ⟨rfl,rfl⟩
 ·have HC:Hid (∀ i,i<xs.length->w.cell? ⟨b,off+i,none⟩=some (.int .i64 (xs.getD i 0))):=hc
  obtain ⟨l,hn⟩:∃ l,xs.length=l:=⟨_,rfl⟩
  have HN:Hid (xs.length=l):=hn
  obtain ⟨R,hR⟩:∃ R,ix xs n=R:=⟨_,rfl⟩
  have HR:Hid (ix xs n=R):=hR
  rw [hn] at hl ⊢
  rw [hR]
  clear hc hn hR
  go_enter func347,ntmps347
  go_wp2
  go_loop [8] (λi=>∃ k:Nat,(k:Int)<=l/\Hid (∀ j,j<k->xs.getD j 0≠n)/\i=.int .i64 k) (λi=>l-(intOf i).toNat)
  case atStart=>exact ⟨0,by omega,λj hj=>by omega,rfl⟩
  case round=>
   obtain ⟨k,hk,hM,rfl⟩:=hrel
   by_cases h:(k:Int)<l
   ·have hc:=HC.out k (by have:=HN.out;omega)
    by_cases e:n=xs.getD k 0
    ·have s:R=k:=by
      rw [<- HR.out]
      exact Q' xs n k (by have:=HN.out;omega) e.symm hM.out
     subst s
     generalize xs.getD k 0=c at *
     subst e
     go_wp2
     go_ret
     exact ⟨rfl,rfl⟩
    ·have s:Hid (∀ j,j<k+1->xs.getD j 0≠n):=λj hj=>by
      by_cases d:j=k
      ·subst d;exact λq=>e q.symm
      ·exact hM.out j (by omega)
     generalize xs.getD k 0=c at *
     have e2:(n==c)=false:=by simpa using e
     clear e
     go_wp2
     go_round
     case rel=>exact ⟨k+1,by omega,s,by go_num⟩
     case measure=>simp [intOf];omega
   ·have s:R=-1:=by
     rw [<- HR.out]
     exact mL xs n λj hj=>hM.out j (by have:=HN.out;omega)
    subst s
    go_wp2
    go_ret
    exact ⟨rfl,rfl⟩
structure Q (w:World) (b g m f:Nat) (r L:List Int):Prop where
 sb:AB w b [.slice (some ⟨g,0,none⟩) m m,.int .i64 (f:Int),.int .i64 (L.length:Int)] 236
 sg:AB w g (r.map (Value.int .i64)) 3
 rg:Rg m f r L
def Q.c0 (h:Q w b g m f r L):w.cell? ⟨b,0,none⟩=some (.slice (some ⟨g,0,none⟩) m m):=h.sb.cell 0
def Q.c1 (h:Q w b g m f r L):w.cell? ⟨b,1,none⟩=some (.int .i64 (f:Int)):=h.sb.cell 1
def Q.c2 (h:Q w b g m f r L):w.cell? ⟨b,2,none⟩=some (.int .i64 (L.length:Int)):=h.sb.cell 2
def Q.ne {w:World} {b g m f:Nat} {r L:List Int} (h:Q w b g m f r L):b≠g:=h.sb.ne h.sg (by decide)
def Q.drewN (h:Q w b g m f r L) (n:Nat):Q (w.drewN n) b g m f r L:=⟨h.sb,h.sg,h.rg⟩
def Q.AA {B:Nat} {S:List Nat} {w w':World} {b g m f:Nat} {r L:List Int} (h:Q w b g m f r L) (k:Fr B S w w') (hb:b<B/\g<B) (hs:b∉S/\g∉S):Q w' b g m f r L:=
 ⟨h.sb.AA k hb.1 hs.1,h.sg.AA k hb.2 hs.2,h.rg⟩
def MU (k:Nat) (w:World) (c0:w.cell? ⟨b,0,none⟩=some (.slice (some ⟨g,0,none⟩) m m)) (c1:w.cell? ⟨b,1,none⟩=some (.int .i64 (f:Int)))
 (h1:(m:Int)<=1024) (h2:(f:Int)<m) (hk:(k:Int)<=m):
 Calls prog 249 #[.pointer (some ⟨b,0,none⟩),.int .i64 (k:Int)] w λe w'=>e=.returned (.int .i64 (pl m f k:Nat))/\w'=w:=by
 by_cases c:(f:Int)+k<m
 ·have e:((pl m f k:Nat):Int)=(f:Int)+k:=by unfold pl;rw [AHi (by omega)];omega
  rw [e]
  clear e
  go_enter func249,ntmps249
  go_wp2
  go_ret
  exact ⟨rfl,rfl⟩
 ·have e:((pl m f k:Nat):Int)=(f:Int)+k-m:=by unfold pl;rw [AHh (by omega)];omega
  rw [e]
  clear e
  go_enter func249,ntmps249
  go_wp2
  go_ret
  exact ⟨rfl,rfl⟩
def uP (w:World) (L:List Int) (v:Value):Prop:=∃ v1 v2 A B,v=.tuple #[v1,v2]/\Row w v1 A/\Row w v2 B/\A++B=L/\∃ a1 c1 a2 c2,v1=.slice a1 A.length c1/\v2=.slice a2 B.length c2
def RG (w:World) (h:Q w b g m f r L):
 Calls prog 323 #[.pointer (some ⟨b,0,none⟩)] w λe w'=>∃ v,e=.returned v/\uP w L v/\∃ n,w'=w.drewN n:=by
 have c0:=h.c0
 have c1:=h.c1
 have c2:=h.c2
 have h1:(m:Int)<=1024:=by have:=h.rg.m2;omega
 have h2:(f:Int)<m:=by have:=h.rg.hf;omega
 have h3:(L.length:Int)<=m:=by have:=h.rg.hc;omega
 have hl:=h.rg.len
 by_cases c:(f:Int)+L.length<=m
 ·have T:Hid (uP w L (.tuple #[.slice (some ⟨g,f,none⟩) (f+L.length-f) (m-f),.slice none 0 0])):=by
   have R1:=Hb h.sg f L.length (m-f) (by omega)
   rw [uN h.rg (by omega)] at R1
   rw [show f+L.length-f=L.length by omega]
   exact ⟨_,_,L,[],rfl,R1,Or.inl ⟨rfl,none,0,rfl⟩,by simp,_,_,_,_,rfl,rfl⟩
  clear h hl
  generalize L.length=l at *
  go_enter func323,ntmps323
  go_wp2
  go_quiet (fail)
  go_wp2
  go_quiet (fail)
  go_wp2
  go_ret2
  exact ⟨_,rfl,T.out,_,World.drewN_drewN ..⟩
 ·have T:Hid (uP w L (.tuple #[.slice (some ⟨g,f,none⟩) (m-f) (m-f),.slice (some ⟨g,0,none⟩) (f+L.length-m) m])):=by
   have R1:=Hb h.sg f (m-f) (m-f) (by omega)
   have R2:=Hb h.sg 0 (f+L.length-m) m (by omega)
   have e:=uO h.rg (by omega)
   have l1:((r.drop f).take (m-f)).length=m-f:=by simp [hl]
   have l2:((r.drop 0).take (f+L.length-m)).length=f+L.length-m:=by simp [hl];omega
   exact ⟨_,_,_,_,rfl,R1,R2,e,some ⟨g,f,none⟩,m-f,some ⟨g,0,none⟩,m,by rw [l1],by rw [l2]⟩
  clear h hl
  generalize L.length=l at *
  go_enter func323,ntmps323
  go_wp2
  go_quiet (fail)
  go_wp2
  go_quiet (fail)
  go_wp2
  go_ret2
  exact ⟨_,rfl,T.out,_,World.drewN_drewN ..⟩
def Qb (L:List Int) (n:Int) (h:n∈L):(0:Int)<=ix L n:=by
 obtain ⟨k,e,_⟩:=JZ L n h
 omega
def ABX (L:List Int) (n:Int):ix L n<(L.length:Int)/\-1<=ix L n:=by
 by_cases h:n∈L
 ·obtain ⟨k,e,hk,_⟩:=JZ L n h
  omega
 ·rw [Ex L n h]
  omega
def Ja (n:Int) (w:World) (h:Q w b g m f r L):
 Calls prog 320 #[.pointer (some ⟨b,0,none⟩),.int .i64 n] w λe w'=>e=.returned (.int .i64 (ix L n))/\∃ k,w'=w.drewN k:=by
 have C:Hid (∀ _:Unit,_):=λ_=>RG w h
 have hL:(L.length:Int)<=1024:=by have:=h.rg.hc;have:=h.rg.m2;omega
 obtain ⟨X,hX⟩:∃ X,ix L n=X:=⟨_,rfl⟩
 have HX:Hid (ix L n=X):=hX
 rw [hX]
 have HL:Hid ((L.length:Int)<=1024):=hL
 clear h hX hL
 go_enter func320,ntmps320
 go_wp2_with fail
 refine (C.out ()).mono ?_
 rintro e w' ⟨v,rfl,⟨v1,v2,A,B,rfl,R1,R2,hAB,a1,c1,a2,c2,rfl,rfl⟩,q,rfl⟩
 have HAB:Hid (A++B=L):=hAB
 have hl:(A.length:Int)+B.length<=1024:=by have:=HL.out;rw [<- hAB,ADa] at this;omega
 have CA:Hid (∀ _:Unit,_):=λ_=>PF A _ n (w.drewN q) (by omega) R1
 have CB:Hid (∀ _:Unit,_):=λ_=>PF B _ n (w.drewN q) (by omega) R2
 clear R1 R2 hAB
 by_cases hA:n∈A
 ·have e:X=ix A n:=by rw [<- HX.out,<- HAB.out];exact Tg A B n hA
  have g1:=Qb A n hA
  rw [<- e] at CA g1
  clear hA CB e
  go_wp2_with fail
  refine (CA.out ()).mono ?_
  rintro e w' ⟨rfl,rfl⟩
  go_wp2
  go_ret
  exact ⟨rfl,_,rfl⟩
 ·have ea:=Ex A n hA
  rw [ea] at CA
  by_cases hB:n∈B
  ·have e:X=A.length+ix B n:=by rw [<- HX.out,<- HAB.out];exact RC A B n hA hB
   have g1:=Qb B n hB
   have g2:=(ABX B n).1
   have HE:Hid ((A.length:Int)+ix B n=X):=e.symm
   clear hA hB ea e
   generalize ix B n=x at *
   generalize A.length=la at *
   generalize B.length=lb at *
   go_wp2_with fail
   refine (CA.out ()).mono ?_
   rintro e w' ⟨rfl,rfl⟩
   go_wp2_with fail
   refine (CB.out ()).mono ?_
   rintro e w' ⟨rfl,rfl⟩
   go_wp2
   go_ret
   exact ⟨AHo (λz=>Ending.returned (Value.int .i64 z)) HE.out,_,rfl⟩
  ·have e:X=-1:=by
    rw [<- HX.out,<- HAB.out]
    exact Ex _ _ (by rw [ADi];exact λh=>h.elim hA hB)
   have eb:=Ex B n hB
   rw [eb] at CB
   subst e
   clear hA hB ea eb
   generalize A.length=la at *
   generalize B.length=lb at *
   go_wp2_with fail
   refine (CA.out ()).mono ?_
   rintro e w' ⟨rfl,rfl⟩
   go_wp2_with fail
   refine (CB.out ()).mono ?_
   rintro e w' ⟨rfl,rfl⟩
   go_wp2
   go_ret
   exact ⟨rfl,_,rfl⟩
def Q.heap (h:Q w b g m f r L) (e:w1.heap=w.heap):Q w1 b g m f r L:=
 ⟨by unfold AB;rw [e];exact h.sb,by unfold AB;rw [e];exact h.sg,h.rg⟩
def uQ (h:Q w b g m f r L) (n:Int) (hc:L.length<m):
 Q ((w.setCell ⟨g,pl m f L.length,none⟩ (.int .i64 n)).setCell ⟨b,2,none⟩ (.int .i64 ((L.length:Int)+1))) b g m f (r.set (pl m f L.length) n) (L++[n]):=by
 refine ⟨?_,?_,mM h.rg n hc⟩
 ·have:=(h.sb.other (p:=⟨g,pl m f L.length,none⟩) h.ne (.int .i64 n)).set 2 (.int .i64 ((L.length:Int)+1))
  simpa using this
 ·have:=(h.sg.set (pl m f L.length) (.int .i64 n)).other (p:=⟨b,2,none⟩) h.ne.symm (.int .i64 ((L.length:Int)+1))
  rwa [<- AFT] at this
def ABY (h:Q w b g m f r L) (hc:0<L.length) (c:Int) (e:c=(L.length:Int)-1):
 Q ((w.setCell ⟨b,1,none⟩ (.int .i64 (pl m f 1:Nat))).setCell ⟨b,2,none⟩ (.int .i64 c)) b g m (pl m f 1) r L.tail:=by
 refine ⟨?_,?_,uL h.rg hc⟩
 ·have:=(h.sb.set 1 (.int .i64 (pl m f 1:Nat))).set 2 (.int .i64 c)
  have e2:((L.tail.length:Nat):Int)=c:=by simp;omega
  rw [e2]
  exact this
 ·exact (h.sg.other (p:=⟨b,1,none⟩) h.ne.symm _).other (p:=⟨b,2,none⟩) h.ne.symm _
def RH (m:Nat) (w:World) (h1:(1:Int)<=m) (h2:(m:Int)<=1024):
 Calls prog 67 #[.int .i64 (m:Int)] w λe w'=>e=.returned (.tuple #[.pointer (some ⟨w.heap.size+1,0,none⟩),.int .i64 0])/\Q w' (w.heap.size+1) w.heap.size m 0 (List.replicate m 0) []/\Fr w.heap.size [] w w'/\w'.heap.size=w.heap.size+2:=by
 have hmk:=run_make_row' (P:=prog) 122 3 (.int .i64 0) 8 underlying122 Tryz.Dw rfl .i64 .i64 m (by omega) (by omega)
 have F:Hid (∀ o1 o2,Fr w.heap.size [] w ((w.alloc o1).alloc o2)):=λo1 o2=>((Fr.refl _ _ _).alloc (ADW _) o1).alloc (by simp) o2
 have G:Hid (Rg m 0 (List.replicate m 0) []):=uK m (by omega) (by omega)
 go_enter func67,ntmps67
 go_wp2
 go_ret2
 refine ⟨rfl,⟨?_,?_,G.out⟩,F.out _ _,by simp⟩
 ·have:=AB.new (w.alloc (Obj.cells (madeCells #[Value.int IntKind.i64 0] m) 3)) [.slice (some ⟨w.heap.size,0,none⟩) m m,.int .i64 0,.int .i64 0] 236
  simpa using this
 ·rw [ES]
  exact (AB.new w _ 3).alloc _
def PH (w:World) (h:Q w b g m f r L):
 Calls prog 248 #[.pointer (some ⟨b,0,none⟩)] w λe w'=>e=.returned (.tuple #[.int .i64 (L.headD 0),.int .i64 (fE L)])/\∃ k,w'=w.drewN k:=by
 have c0:=h.c0
 have c1:=h.c1
 have c2:=h.c2
 have h1:(m:Int)<=1024:=by have:=h.rg.m2;omega
 have h2:(f:Int)<m:=by have:=h.rg.hf;omega
 by_cases c:L=[]
 ·subst c
  rw [show fE []=12 from rfl,show List.headD ([]:List Int) 0=0 from rfl]
  clear h
  go_enter func248,ntmps248
  go_wp2
  go_ret2
  exact ⟨rfl,0,rfl⟩
 ·have hl:0<L.length:=AEv.2 c
  have cg:w.cell? ⟨g,f,none⟩=some (.int .i64 (L.headD 0)):=by
   have a:=h.rg.at' 0 hl
   rw [show pl m f 0=f from AHi (by have:=h.rg.hf;omega)] at a
   rw [h.sg.cell f,Ae r f (by rw [h.rg.len];exact h.rg.hf),a]
   cases L <;> simp
  rw [show fE L=0 from AHh c]
  have hl2:(0:Int)<L.length:=by omega
  clear h c hl
  generalize L.headD 0=x at *
  generalize L.length=l at *
  go_enter func248,ntmps248
  go_wp2
  go_quiet (fail)
  go_wp2
  go_ret2
  exact ⟨rfl,_,rfl⟩
def DA (w:World) (h:Q w b g m f r L):
 Calls prog 103 #[.pointer (some ⟨b,0,none⟩)] w λe w'=>e=.returned (.int .i64 (L.length:Int))/\w'=w:=by
 have c2:=h.c2
 clear h
 go_enter func103,ntmps103
 go_wp2
 go_ret
 exact ⟨rfl,rfl⟩
def mO (w:World) (h:Q w b g m f r L):
 Calls prog 321 #[.pointer (some ⟨b,0,none⟩)] w λe w'=>e=.returned (.int .i64 (m:Int))/\w'=w:=by
 have c0:=h.c0
 clear h
 go_enter func321,ntmps321
 go_wp2
 go_ret
 exact ⟨rfl,rfl⟩
def Hn (n:Int) (w:World) (h:Q w b g m f r L):
 Calls prog 319 #[.pointer (some ⟨b,0,none⟩),.int .i64 n] w λe w'=>e=.returned (.bool (decide (n∈L)))/\∃ k,w'=w.drewN k:=by
 have C:Hid (∀ _:Unit,_):=λ_=>Ja n w h
 by_cases c:n∈L
 ·have g1:=Qb L n c
  rw [AHj c]
  clear h c
  generalize ix L n=x at *
  go_enter func319,ntmps319
  go_wp2_with fail
  refine (C.out ()).mono ?_
  rintro e w' ⟨rfl,q,rfl⟩
  go_wp2
  go_ret
  exact ⟨rfl,_,rfl⟩
 ·rw [Ex L n c] at C
  rw [AHk c]
  clear h c
  go_enter func319,ntmps319
  go_wp2_with fail
  refine (C.out ()).mono ?_
  rintro e w' ⟨rfl,q,rfl⟩
  go_wp2
  go_ret
  exact ⟨rfl,_,rfl⟩
def Lo (n:Int) (w:World) (h:Q w b g m f r L):
 Calls prog 282 #[.pointer (some ⟨b,0,none⟩),.int .i64 n] w λe w'=>e=.returned (.int .i64 (pE m L n))/\(∃ r',Q w' b g m f r' (pL m L n))/\Fr w.heap.size [b,g] w w':=by
 have C:Hid (∀ _:Unit,_):=λ_=>Ja n w h
 have c0:=h.c0
 have c1:=h.c1
 have c2:=h.c2
 have h1:(m:Int)<=1024:=by have:=h.rg.m2;omega
 have h2:(f:Int)<m:=by have:=h.rg.hf;omega
 have h3:(L.length:Int)<=m:=by have:=h.rg.hc;omega
 have HQ:Hid (Q w b g m f r L):=h
 by_cases c:n∈L
 ·have g1:=Qb L n c
  rw [show pE m L n=6 from AHi c,show pL m L n=L from AHi c]
  clear h c c0 c1 c2 h1 h2 h3
  generalize ix L n=x at *
  go_enter func282,ntmps282
  go_wp2_with fail
  refine (C.out ()).mono ?_
  rintro e w' ⟨rfl,q,rfl⟩
  go_wp2
  go_ret
  exact ⟨rfl,⟨_,HQ.out.drewN _⟩,(Fr.refl _ _ _).drewN _⟩
 ·rw [Ex L n c] at C
  by_cases d:m<=L.length
  ·rw [show pE m L n=5 by unfold pE;rw [AHh c,AHi d],show pL m L n=L by unfold pL;rw [AHh c,AHi d]]
   have d2:(L.length:Int)=m:=by omega
   rw [d2] at c2
   clear h c c1 h3 d d2
   go_enter func282,ntmps282
   go_wp2_with fail
   refine (C.out ()).mono ?_
   rintro e w' ⟨rfl,q,rfl⟩
   go_wp2
   go_quiet (fail)
   go_wp2
   go_ret
   exact ⟨rfl,⟨_,(HQ.out.drewN _).drewN _⟩,((Fr.refl _ _ _).drewN _).drewN _⟩
  ·rw [show pE m L n=0 by unfold pE;rw [AHh c,AHh d],show pL m L n=L++[n] by unfold pL;rw [AHh c,AHh d]]
   have d2:((L.length:Int)==m)=false:=by simp;omega
   have d3:(L.length:Int)<m:=by omega
   have A:Hid (∀ w1:World,w1.heap=w.heap->_):=λw1 e=>MU L.length w1 (h.heap e).c0 (h.heap e).c1 h1 h2 h3
   have QP:Hid (∀ w1:World,w1.heap=w.heap->_):=λw1 e=>uQ (h.heap e) n (by omega)
   have p1:((pl m f L.length:Nat):Int)<m:=by have:=Kb (m:=m) (f:=f) (k:=L.length) (by omega) (by omega);omega
   have cg:w.cell? ⟨g,pl m f L.length,none⟩=some (.int .i64 (r.getD (pl m f L.length) 0)):=by
    rw [h.sg.cell,Ae _ _ (by rw [h.rg.len];omega)]
   have fg:w.frozen? ⟨g,pl m f L.length,none⟩=false:=h.sg.free _
   have fb:w.frozen? ⟨b,2,none⟩=false:=h.sb.free _
   have ne1:=h.ne
   have ne2:=h.ne.symm
   clear h c d
   generalize L.length=l at *
   generalize pl m f l=p at *
   generalize r.getD p 0=x at *
   go_enter func282,ntmps282
   go_wp2_with fail
   refine (C.out ()).mono ?_
   rintro e w' ⟨rfl,q,rfl⟩
   go_wp2
   go_quiet (fail)
   go_wp2
   go_region_held3 (λw'=>w'.cell? ⟨b,0,none⟩=some (.slice (some ⟨g,0,none⟩) m m)/\w'.cell? ⟨b,2,none⟩=some (.int .i64 (l:Int))) (go_keep)
    (first | (go_at_call 249;refine (A.out _ ?_).mono ?_;rfl;rintro e w' ⟨rfl,rfl⟩))
   all_goals go_wp2
   go_ret
   exact ⟨rfl,⟨_,QP.out _ rfl⟩,(((Fr.refl _ _ _).drewN _).setCell (Or.inr (by simp)) _).setCell (Or.inr (by simp)) _⟩
def UY (w:World) (h:Q w b g m f r L):
 Calls prog 189 #[.pointer (some ⟨b,0,none⟩)] w λe w'=>e=.returned (.tuple #[.int .i64 (L.headD 0),.int .i64 (fE L)])/\(∃ f',Q w' b g m f' r L.tail)/\Fr w.heap.size [b,g] w w':=by
 have C:Hid (∀ _:Unit,_):=λ_=>PH w h
 have HQ:Hid (Q w b g m f r L):=h
 by_cases c:L=[]
 ·subst c
  rw [show fE []=12 from rfl,show List.headD ([]:List Int) 0=0 from rfl,show ([]:List Int).tail=[] from rfl] at *
  clear h
  go_enter func189,ntmps189
  go_wp2_with fail
  refine (C.out ()).mono ?_
  rintro e w' ⟨rfl,q,rfl⟩
  go_wp2
  go_ret2
  exact ⟨rfl,⟨_,HQ.out.drewN _⟩,(Fr.refl _ _ _).drewN _⟩
 ·have hl:0<L.length:=AEv.2 c
  rw [show fE L=0 from AHh c] at C ⊢
  have c2:=h.c2
  have h1:(m:Int)<=1024:=by have:=h.rg.m2;omega
  have h2:(f:Int)<m:=by have:=h.rg.hf;omega
  have h3:(L.length:Int)<=m:=by have:=h.rg.hc;omega
  have h4:(1:Int)<=L.length:=by omega
  have A:Hid (∀ w1:World,w1.heap=w.heap->_):=λw1 e=>MU 1 w1 (h.heap e).c0 (h.heap e).c1 h1 h2 (by omega)
  have QP:Hid (∀ w1:World,w1.heap=w.heap->_):=λw1 e=>ABY (h.heap e) hl ((L.length:Int)-1) rfl
  have c1:=h.c1
  have f1:w.frozen? ⟨b,1,none⟩=false:=h.sb.free _
  have f2:w.frozen? ⟨b,2,none⟩=false:=h.sb.free _
  clear h c hl
  generalize L.length=l at *
  generalize pl m f 1=p at *
  generalize L.headD 0=x at *
  go_enter func189,ntmps189
  go_wp2_with fail
  refine (C.out ()).mono ?_
  rintro e w' ⟨rfl,q,rfl⟩
  go_wp2_with fail
  refine (A.out (w.drewN q) rfl).mono ?_
  rintro e w' ⟨rfl,rfl⟩
  go_wp2
  go_ret2
  exact ⟨rfl,⟨_,QP.out _ rfl⟩,(((Fr.refl _ _ _).drewN _).setCell (Or.inr (by simp)) _).setCell (Or.inr (by simp)) _⟩
def dF (w:World) (h:Q w b g m f r L) (hn:L.Nodup):
 Calls prog 255 #[.pointer (some ⟨b,0,none⟩)] w λe w'=>e=.returned (.int .i64 (fE L))/\(∃ f' r',Q w' b g m f' r' (tL L))/\Fr w.heap.size [b,g] w w':=by
 have C:Hid (∀ _:Unit,_):=λ_=>UY w h
 have hb:=h.rg.hc
 clear h
 cases L with
 | nil=>
  rw [show fE []=12 from rfl,show List.headD ([]:List Int) 0=0 from rfl,show ([]:List Int).tail=[] from rfl] at C
  rw [show fE []=12 from rfl,show tL []=[] from rfl]
  clear hn hb
  go_enter func255,ntmps255
  go_wp2_with fail
  refine (C.out ()).mono ?_
  rintro e w' ⟨rfl,⟨f',hq⟩,hf⟩
  go_wp2
  go_ret
  exact ⟨rfl,⟨_,_,hq⟩,hf⟩
 | cons a t=>
  rw [AF7] at hn
  rw [show fE (a::t)=0 from rfl,show List.headD (a::t) 0=a from rfl,show (a::t).tail=t from rfl] at C
  rw [show fE (a::t)=0 from rfl,show tL (a::t)=t++[a] from rfl]
  have e1:pE m t a=0:=by unfold pE;rw [AHh hn.1,AHh];simp at hb;omega
  have e2:pL m t a=t++[a]:=by unfold pL;rw [AHh hn.1,AHh];simp at hb;omega
  have D:Hid (∀ (w1:World) (f1:Nat),Q w1 b g m f1 r t->_):=λw1 f1 h1=>Lo a w1 h1
  rw [e1,e2] at D
  clear hn hb e1 e2
  go_enter func255,ntmps255
  go_wp2_with fail
  refine (C.out ()).mono ?_
  rintro e w' ⟨rfl,⟨f',hq⟩,hf⟩
  go_wp2_with fail
  refine (D.out _ _ hq).mono ?_
  rintro e w2 ⟨rfl,⟨r',hq2⟩,hf2⟩
  go_wp2
  go_ret
  exact ⟨rfl,⟨_,_,hq2⟩,hf.trans (hf2.less hf.size)⟩
structure DQ (w wr:World) (b g m f:Nat) (L:List Int) (gap k:Nat) (rr:List Int):Prop where
 sb:AB wr b [.slice (some ⟨g,0,none⟩) m m,.int .i64 (f:Int),.int .i64 ((L.length:Int)-1)] 236
 sg:AB wr g (rr.map (Value.int .i64)) 3
 dr:Dr m f rr L gap k
 fr:Fr w.heap.size [b,g] w wr
def dG (h:Q w b g m f r L) (gap:Nat) (e:w1.heap=w.heap) (hf:Fr w.heap.size [b,g] w w1):
 DQ w (w1.setCell ⟨b,2,none⟩ (.int .i64 ((L.length:Int)-1))) b g m f L gap 0 r:=by
 refine ⟨(h.heap e).sb.set 2 _,(h.heap e).sg.other (p:=⟨b,2,none⟩) h.ne.symm _,dC h.rg gap,hf.setCell (Or.inr (by simp)) _⟩
def mP (h:DQ w wr b g m f L gap k rr) (e:w1.heap=wr.heap) (hf:Fr wr.heap.size [b,g] wr w1) (h2:f<m) (h3:L.length<=m) (hk:gap+k+1<L.length):
 DQ w (w1.setCell ⟨g,pl m f (gap+k),none⟩ (.int .i64 (rr.getD (pl m f (gap+k+1)) 0))) b g m f L gap (k+1) (rr.set (pl m f (gap+k)) (rr.getD (pl m f (gap+k+1)) 0)):=by
 have sb:=h.sb.heap e
 have sg:=h.sg.heap e
 refine ⟨sb.other (p:=⟨g,_,none⟩) (sb.ne sg (by decide)) _,?_,mN h.dr h2 h3 hk,(h.fr.trans (hf.less h.fr.size)).setCell (Or.inr (by simp)) _⟩
 have:=sg.set (pl m f (gap+k)) (.int .i64 (rr.getD (pl m f (gap+k+1)) 0))
 rwa [<- AFT] at this
def uR (h:DQ w wr b g m f L gap k rr) (hr:1<=m/\m<=1024/\f<m/\L.length<=m) (hg:gap<L.length) (hk:gap+k+1=L.length):
 Q wr b g m f rr (L.eraseIdx gap):=by
 refine ⟨?_,h.sg,uM h.dr hr hg hk⟩
 have hl:(L.eraseIdx gap).length=L.length-1:=List.length_eraseIdx_of_lt hg
 have e2:(((L.eraseIdx gap).length:Nat):Int)=(L.length:Int)-1:=by omega
 rw [e2]
 exact h.sb
def Il (n:Int) (w:World) (h:Q w b g m f r L) (hn:L.Nodup):
 Calls prog 263 #[.pointer (some ⟨b,0,none⟩),.int .i64 n] w λe w'=>e=.returned (.int .i64 (dE L n))/\(∃ r',Q w' b g m f r' (wo L n))/\Fr w.heap.size [b,g] w w':=by
 have C:Hid (∀ _:Unit,_):=λ_=>Ja n w h
 have HQ:Hid (Q w b g m f r L):=h
 by_cases c:n∈L
 ·obtain ⟨gap,e,hg,_,_⟩:=JZ L n c
  rw [show dE L n=0 from AHi c,<- dD L n hn gap e]
  rw [e] at C
  have c2:=h.c2
  have f2:w.frozen? ⟨b,2,none⟩=false:=h.sb.free _
  have hr:Hid (1<=m/\m<=1024/\f<m/\L.length<=m):=⟨h.rg.m1,h.rg.m2,h.rg.hf,h.rg.hc⟩
  have h1:(m:Int)<=1024:=by have:=h.rg.m2;omega
  have h2:(f:Int)<m:=by have:=h.rg.hf;omega
  have h3:(L.length:Int)<=m:=by have:=h.rg.hc;omega
  have h4:(gap:Int)<L.length:=by omega
  have S0:Hid (∀ w1:World,w1.heap=w.heap->Fr w.heap.size [b,g] w w1->_):=λw1 e hf=>dG (w1:=w1) h gap e hf
  have E0:Hid (∀ (wr:World) (k:Nat) (rr:List Int),DQ w wr b g m f L gap k rr->(gap:Int)+k+1=L.length->_):=λwr k rr d hk=>uR d hr.out hg (by omega)
  have P0:Hid (∀ (wr w1:World) (k:Nat) (rr:List Int),DQ w wr b g m f L gap k rr->w1.heap=wr.heap->Fr wr.heap.size [b,g] wr w1->(gap:Int)+k+1<L.length->_):=λwr w1 k rr d e hf hk=>mP (w1:=w1) d e hf (by omega) (by omega) (by omega)
  clear h c e hg hr hn
  obtain ⟨l,hl⟩:∃ l,L.length=l:=⟨_,rfl⟩
  rw [hl] at c2 h3 h4 S0 E0 P0
  clear hl
  go_enter func263,ntmps263
  go_wp2_with fail
  refine (C.out ()).mono ?_
  rintro e w' ⟨rfl,q,rfl⟩
  go_wp2
  have D0:=S0.out (w.drewN q) rfl ((Fr.refl _ _ _).drewN _)
  go_loopw [27] (λi wr=>∃ (k:Nat) (rr:List Int),(gap:Int)+k+1<=l/\DQ w wr b g m f L gap k rr/\i=.int .i64 k) (λi _=>l-(intOf i).toNat)
  case atStart=>exact ⟨0,r,by omega,D0,rfl⟩
  case round=>
   obtain ⟨k,rr,hk,D,rfl⟩:=hrel
   clear D0 c2 f2
   by_cases h:(gap:Int)+k+1<l
   ·have c0:=D.sb.cell 0
    have c1:=D.sb.cell 1
    have A1:Hid (∀ w1:World,w1.heap=wr.heap->_):=λw1 e=>MU (b:=b) (g:=g) (m:=m) (f:=f) (gap+k) w1 (by simp [World.cell?,e] at c0 ⊢;exact c0) (by simp [World.cell?,e] at c1 ⊢;exact c1) h1 h2 (by omega)
    have A2:Hid (∀ w1:World,w1.heap=wr.heap->_):=λw1 e=>MU (b:=b) (g:=g) (m:=m) (f:=f) (gap+k+1) w1 (by simp [World.cell?,e] at c0 ⊢;exact c0) (by simp [World.cell?,e] at c1 ⊢;exact c1) h1 h2 (by omega)
    rw [show ((gap+k:Nat):Int)=(gap:Int)+k by omega] at A1
    rw [show ((gap+k+1:Nat):Int)=(gap:Int)+k+1 by omega] at A2
    have PN:Hid (∀ w1:World,_->_->_):=λw1 e hf=>P0.out wr w1 k rr D e hf h
    have p1:((pl m f (gap+k):Nat):Int)<m:=by have:=Kb (m:=m) (f:=f) (k:=gap+k) (by omega) (by omega);omega
    have p2:((pl m f (gap+k+1):Nat):Int)<m:=by have:=Kb (m:=m) (f:=f) (k:=gap+k+1) (by omega) (by omega);omega
    have hz:pl m f (gap+k)≠pl m f (gap+k+1):=λe=>by have:=RF (m:=m) (f:=f) (by omega) (by omega) (by omega) e;omega
    have hlen:=D.dr.len
    have g1:wr.cell? ⟨g,pl m f (gap+k),none⟩=some (.int .i64 (rr.getD (pl m f (gap+k)) 0)):=by
     rw [D.sg.cell,Ae _ _ (by omega)]
    have g2:wr.cell? ⟨g,pl m f (gap+k+1),none⟩=some (.int .i64 (rr.getD (pl m f (gap+k+1)) 0)):=by
     rw [D.sg.cell,Ae _ _ (by omega)]
    have K2:(wr.setCell ⟨g,pl m f (gap+k),none⟩ (.int .i64 (rr.getD (pl m f (gap+k+1)) 0))).cell? ⟨g,pl m f (gap+k+1),none⟩=some (.int .i64 (rr.getD (pl m f (gap+k+1)) 0)):=by
     rw [(D.sg.set _ _).cell,AEP hz,Ae _ _ (by omega)]
    have fg:wr.frozen? ⟨g,pl m f (gap+k),none⟩=false:=D.sg.free _
    have c0':wr.cell? ⟨b,0,none⟩=some (.slice (some ⟨g,0,none⟩) m m):=c0
    have n1:=D.sb.ne D.sg (by decide)
    have n2:=n1.symm
    have W1:Hid (IntKind.i64.wrap ((gap:Int)+k)=(gap:Int)+k):=IntWalk.i64_in _ (by omega)
    have W2:Hid (IntKind.i64.wrap ((gap:Int)+k+1)=(gap:Int)+k+1):=IntWalk.i64_in _ (by omega)
    clear D hlen c1 c0 hz
    generalize pl m f (gap+k)=z1 at *
    generalize pl m f (gap+k+1)=z2 at *
    generalize rr.getD z1 0=x1 at *
    generalize rr.getD z2 0=x2 at *
    go_wp2
    go_region_held3 (λw'=>w'.cell? ⟨b,0,none⟩=some (.slice (some ⟨g,0,none⟩) m m)/\w'.cell? ⟨g,z2,none⟩=some (.int .i64 x2)) (go_keep)
     (first | (go_at_call_of 249 (Value.int IntKind.i64 (IntKind.i64.wrap ((gap:Int)+(k:Int))));rw [W1.out];refine (A1.out _ ?_).mono ?_;rfl;rintro e w' ⟨rfl,rfl⟩) | (go_at_call 249;(try simp only [W1.out]);(try simp only [W2.out]);refine (A2.out _ ?_).mono ?_;rfl;rintro e w' ⟨rfl,rfl⟩))
    all_goals go_wp2
    go_roundw
    case rel=>exact ⟨k+1,_,by omega,PN.out wr.drew rfl (Fr.refl _ _ _).drew,by go_num⟩
    case measure=>simp [intOf];omega
   ·have QE:=E0.out _ _ _ D (by omega)
    have FE:=D.fr
    clear D
    go_wp2
    go_ret
    exact ⟨rfl,⟨_,QE⟩,FE⟩
 ·rw [show dE L n=4 from AHh c,Kd L n c]
  rw [Ex L n c] at C
  clear h c hn
  go_enter func263,ntmps263
  go_wp2_with fail
  refine (C.out ()).mono ?_
  rintro e w' ⟨rfl,q,rfl⟩
  go_wp2
  go_ret
  exact ⟨rfl,⟨_,HQ.out.drewN _⟩,(Fr.refl _ _ _).drewN _⟩
def mQ (w:World) (h:Q w b g m f r L):
 Calls prog 269 #[.pointer (some ⟨b,0,none⟩)] w λe w'=>∃ v g,e=.returned v/\v=.slice (some ⟨g,0,none⟩) L.length L.length/\w'.ownsRow w.heap.size 3 1 v L.length (L.map (Value.int .i64))/\Below w.heap.size w w':=by
 have C:Hid (∀ _:Unit,_):=λ_=>RG w h
 have c2:=h.c2
 have hL:(L.length:Int)<=1024:=by have:=h.rg.hc;have:=h.rg.m2;omega
 have hmk:=run_make_row' (P:=prog) 122 3 (.int .i64 0) 8 underlying122 Tryz.Dw rfl .i64 .i64 L.length (by omega) (by omega)
 clear h
 rw [ES] at hmk
 obtain ⟨Z,hZ⟩:∃ Z:List Value,(List.replicate L.length (0:Int)).map (Value.int .i64)=Z:=⟨_,rfl⟩
 have lZ:Hid (Z.length=L.length):=by rw [<- hZ];simp [Hid]
 rw [hZ] at hmk
 clear hZ
 obtain ⟨l,hl⟩:∃ l,L.length=l:=⟨_,rfl⟩
 have HL:Hid (L.length=l):=hl
 rw [hl] at c2 hL hmk lZ
 clear hl
 go_enter func269,ntmps269
 go_wp2_with fail
 refine (C.out ()).mono ?_
 rintro e w' ⟨v,rfl,⟨v1,v2,A,B,rfl,R1,R2,hAB,a1,k1,a2,k2,rfl,rfl⟩,q,rfl⟩
 have HAB:Hid (A++B=L):=hAB
 have hs:(A.length:Int)+B.length=l:=by have:=HL.out;rw [<- hAB,ADa] at this;omega
 have BW:Below w.heap.size w ((w.drewN q).alloc (.cells Z.toArray 3)):=(((Fr.refl w.heap.size [] w).drewN q).alloc (ADW _) _).below (by simp)
 have R1':Row ((w.drewN q).alloc (.cells Z.toArray 3)) _ A:=Row.AA (w:=w) (B:=w.heap.size) R1 (Fr.AE BW) (ADW _)
 have R2':Hid (Row w _ B):=R2
 have GW:Hid (((w.drewN q).alloc (.cells Z.toArray 3)).heap[w.heap.size]?=some (.cells Z.toArray 3 (0,0))):=heap_alloc_new _ _
 have HB:Hid (Below w.heap.size w ((w.drewN q).alloc (.cells Z.toArray 3))):=BW
 obtain ⟨X,hX⟩:∃ X,A.map (Value.int .i64)=X:=⟨_,rfl⟩
 have lX:X.length=A.length:=by rw [<- hX];simp
 have oX:Hid (∀ v∈X,v.oneCell'=true):=by rw [<- hX];exact Ig A
 have sX:Hid (0<A.length->_):=λhp=>UL R1' hp
 obtain ⟨Y,hY⟩:∃ Y,B.map (Value.int .i64)=Y:=⟨_,rfl⟩
 have lY:Y.length=B.length:=by rw [<- hY];simp
 have oY:Hid (∀ v∈Y,v.oneCell'=true):=by rw [<- hY];exact Ig B
 have HXY:Hid (splice (splice Z 0 X) A.length Y=L.map (Value.int .i64)):=by
  have e:=Vw Z X Y (by rw [lX,lY,lZ.out];omega)
  rw [lX] at e
  rw [e,<- hX,<- hY,<- AEg,hAB]
  exact rfl
 have HY:Hid (B.map (Value.int .i64)=Y):=hY
 rw [hX] at sX
 have N1:Hid (X.length=Nat.min A.length l):=by rw [lX];exact (Nat.min_eq_left (by omega)).symm
 have P1:Hid (0<X.length->_):=λhp=>sX.out (by omega)
 have F1:Hid (0+X.length<=Z.length):=by rw [lX,lZ.out];unfold Hid;omega
 have F2:Hid (A.length+Y.length<=(splice Z 0 X).length):=by rw [length_splice _ _ _ F1.out,lY,lZ.out];unfold Hid;omega
 have N2:Hid (Y.length=Nat.min B.length (l-A.length)):=by rw [lY];exact (Nat.min_eq_left (by omega)).symm
 have LY:Hid (Y.length=B.length):=lY
 have PY:Hid (∀ w2:World,Below w.heap.size w w2->0<Y.length->∃ ad,a2=some ad/\∀ j v,Y[j]?=some v->w2.cell? (ad.add j)=some v):=λw2 hb hp=>by
  have:=UL (Row.AA (w:=w) (B:=w.heap.size) R2 (Fr.AE hb) (ADW _)) (by omega)
  rwa [hY] at this
 have RE:Hid (∀ w3:World,w3.heap[w.heap.size]?=some (.cells (splice (splice Z 0 X) A.length Y).toArray 3 (0,0))->w3.ownsRow w.heap.size 3 1 (.slice (some ⟨w.heap.size,0,none⟩) l l) L.length (L.map (Value.int .i64))):=λw3 hw=>by
  rw [HXY.out] at hw
  have hl:=HL.out
  exact ⟨by simp,Or.inr ⟨w.heap.size,l,_,by rw [hl],ADW _,hw,by omega,by unfold maxLen;omega,by simp [hl],by rw [AEx];exact AFS (by simp)⟩⟩
 clear hAB BW R1 R2 hX hY lX lY R1' sX HAB
 by_cases hb:(B.length:Int)=0
 ·have ea:(A.length:Int)=l:=by omega
  have N3:Hid (Y.length=Nat.min B.length 0):=by rw [LY.out];exact (show B.length=min B.length 0 by omega)
  have N4:Hid (¬ 0<Y.length):=by rw [LY.out];exact (show ¬ 0<B.length by omega)
  go_wp2_with (first | (refine wpList_copy_splice rfl (.tmp 18) (.tmp 19) 122 122 rfl 3 underlying122 Hh _ _ _ _ _ _ rfl rfl w.heap.size 0 Z 3 GW.out X N1.out (λhp=>⟨rfl,P1.out hp⟩) F1.out oX.out w.heap.size w HB.out (ADW _) ?_;intro w2 HG2 hB2) | (refine wpList_copy_splice rfl (.tmp 24) (.tmp 25) 122 122 rfl 3 underlying122 Hh _ _ _ _ _ _ rfl rfl w.heap.size A.length (splice Z 0 X) 3 HG2.out Y N3.out (λhp=>absurd hp N4.out) F2.out oY.out w.heap.size w hB2 (ADW _) ?_;intro w3 HG3 hB3))
  go_ret
  exact ⟨.slice (some ⟨w.heap.size,0,none⟩) l l,w.heap.size,rfl,by rw [HL.out],RE.out _ HG3.out,hB3⟩
 ·have ea:(A.length:Int)<l:=by omega
  go_wp2_with (first | (refine wpList_copy_splice rfl (.tmp 18) (.tmp 19) 122 122 rfl 3 underlying122 Hh _ _ _ _ _ _ rfl rfl w.heap.size 0 Z 3 GW.out X N1.out (λhp=>⟨rfl,P1.out hp⟩) F1.out oX.out w.heap.size w HB.out (ADW _) ?_;intro w2 HG2 hB2) | (refine wpList_copy_splice rfl (.tmp 24) (.tmp 25) 122 122 rfl 3 underlying122 Hh _ _ _ _ _ _ rfl rfl w.heap.size A.length (splice Z 0 X) 3 HG2.out Y N2.out (λhp=>⟨rfl,PY.out w2 hB2 hp⟩) F2.out oY.out w.heap.size w hB2 (ADW _) ?_;intro w3 HG3 hB3))
  go_ret
  exact ⟨.slice (some ⟨w.heap.size,0,none⟩) l l,w.heap.size,rfl,by rw [HL.out],RE.out _ HG3.out,hB3⟩
def UZ (w:World):Calls prog 103 #[.pointer none] w λe w'=>e=.returned (.int .i64 0)/\w'=w:=by
 go_enter func103,ntmps103
 go_wp2
 go_ret
 exact ⟨rfl,rfl⟩
end Go.Proofs.YtdlhlfpigcgapaaGreatDoor.Fif

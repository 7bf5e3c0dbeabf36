import Derived.Test.YtdlhlfpigcgapaaGreatDoorAZal
import Derived.Test.YtdlhlfpigcgapaaGreatDoorAXs
import Derived.Test.YtdlhlfpigcgapaaGreatDoorAXl
import Derived.Lib.AppendZerosOnto
import Derived.Lib.Overlaps
import Derived.Laws.CopyRow
import Derived.Deep.RegionLaw
import Derived.Laws.Externs
import Derived.Lib.JoinLaws
import Derived.Deep.RegionHeld3
import Derived.Maps.OwnSet
import Derived.Lib.Zigzag
import Derived.WalkSpells
import Derived.Lib.SliceRun
import Derived.WalkMore
set_option maxRecDepth 100000
set_option maxHeartbeats 16000000
set_option linter.unusedVariables false
set_option linter.unusedSimpArgs false
set_option linter.defProp false
namespace Go.Proofs.YtdlhlfpigcgapaaGreatDoor.Wm
open Go.Proofs.Tryz
open Slt
variable {i now:Int} {a b d:Nat}
def lv (a b:Nat):Nat:=(Lib.bitLen (a ^^^ b)-1) / 3
def Gp:∀ (k x:Nat),x<2 ^ k->k<=64->Lib.bitLen x<=k
 | 0,x,h,_=>by
  obtain rfl:x=0:=by omega
  exact ADW _
 | k+1,x,h,hk=>by
  by_cases e:x=0
  ·subst e
   exact AFQ _
  ·have h64:x<2 ^ 64:=AD7 h (AFj (by decide) hk)
   rw [Lib.bitLen_half x e h64]
   have:=Gp k (x / 2) (by rw [AE7] at h;omega) (by omega)
   omega
def AB6 (k x:Nat) (h:2 ^ k<=x) (hx:x<2 ^ 64):k+1<=Lib.bitLen x:=by
 have e0:x / 2 ^ k≠0:=by
  have:=Nat.div_pos h (AEJ k)
  omega
 have l0:x / 2 ^ k<2 ^ 64:=AEb (AF6 _ _) hx
 rw [Lib.bitLen_shift k x h hx,Lib.bitLen_half _ e0 l0]
 omega
def p8 (k:Nat):8 ^ k=2 ^ (3*k):=by rw [Nat.pow_mul]
def kH (a b k:Nat):a / 8 ^ k=b / 8 ^ k↔(a ^^^ b)<8 ^ k:=by
 rw [p8]
 have e:=@Nat.xor_div_two_pow a b (3*k)
 constructor
 ·intro h
  rw [h,Nat.xor_self] at e
  have:=(Nat.div_eq_zero_iff).1 e
  rcases this with h | h
  ·have:=AEJ (3*k)
   omega
  ·exact h
 ·intro h
  rw [Nat.div_eq_of_lt h] at e
  have e2:=AHo (λz=>z ^^^ (b / 2 ^ (3*k))) e
  simp only [Nat.zero_xor,Nat.xor_assoc,Nat.xor_self,Nat.xor_zero] at e2
  exact e2.symm
def tk (a:Nat):Prop:=a<=1152921504606846976
def Ji (ha:tk a) (hb:tk b):a ^^^ b<2 ^ 61:=Nat.xor_lt_two_pow (by unfold tk at ha;omega) (by unfold tk at hb;omega)
def Ip (ha:tk a) (hb:tk b):a / 8 ^ (lv a b+1)=b / 8 ^ (lv a b+1):=by
 rw [kH,p8]
 have hx:=Ji ha hb
 unfold lv
 refine Nat.not_le.1 λh=>?_
 have:=AB6 _ _ h (Nat.lt_trans hx (by decide))
 omega
def Mo (ha:tk a) (hb:tk b) (h:lv a b≠0):a / 8 ^ lv a b≠b / 8 ^ lv a b:=by
 rw [Ne,kH,p8]
 have hx:=Ji ha hb
 intro h2
 have l:3*lv a b<=64:=by
  have:=Gp 61 _ hx (by decide)
  unfold lv
  omega
 have:=Gp _ _ h2 l
 unfold lv at *
 omega
def Mb (ha:tk a) (hb:tk b):lv a b<=20:=by
 have:=Gp 61 _ (Ji ha hb) (by decide)
 unfold lv
 omega
def Ra {k m:Nat} (h:a / 8 ^ k=b / 8 ^ k) (hk:k<=m):a / 8 ^ m=b / 8 ^ m:=by
 obtain ⟨d,rfl⟩:=Nat.exists_eq_add_of_le hk
 rw [AFc,<- AFR,<- AFR,h]
def AB7 {l:Nat} (ha:tk a) (hb:tk b) (h1:a / 8 ^ (l+1)=b / 8 ^ (l+1)) (h2:l=0\/a / 8 ^ l≠b / 8 ^ l):lv a b=l:=by
 rcases AEu (lv a b) l with h | h | h
 ·rcases h2 with h2 | h2
  ·omega
  ·exact absurd (Ra (Ip ha hb) (by omega)) h2
 ·exact h
 ·exact absurd (Ra h1 (by omega)) (Mo ha hb (by omega))
def FM (a k:Nat):a / 8 ^ k / 8=a / 8 ^ (k+1):=by rw [AFR,AE7]
def rn (a d:Nat):Nat:=if d<=a then 0 else 1+8*lv a d+d / 8 ^ lv a d % 8
def AB8 (ha:tk a) (hd:tk d):rn a d<169:=by
 unfold rn
 split
 ·omega
 ·have:=Mb ha hd
  have:=AE8 (d / 8 ^ lv a d) (show 0<8 by decide)
  omega
def Mp (a d:Nat) (h:d<=a):rn a d=0:=AHi h
def GH (a d:Nat) (h:a<d):rn a d=1+8*lv a d+d / 8 ^ lv a d % 8:=AHh (by omega)
def nF (a d:Nat):rn a d=0↔d<=a:=by
 unfold rn
 split <;> omega
def nG {e:Nat} (ha:tk a) (hd:tk d) (he:tk e) (h:d<=e):rn a d<=rn a e:=by
 by_cases c:d<=a
 ·rw [Mp a d c]
  exact AFQ _
 rw [GH a d (by omega),GH a e (by omega)]
 have dd:∀ k,d / 8 ^ k<=e / 8 ^ k:=λk=>AEr h
 have ad:∀ k,a / 8 ^ k<=d / 8 ^ k:=λk=>AEr (by omega)
 have l1:=Ip ha hd
 have l2:=Ip ha he
 have m1:=AE8 (d / 8 ^ lv a d) (show 0<8 by decide)
 rcases AEu (lv a d) (lv a e) with q | q | q
 ·omega
 ·rw [<- q] at l2 ⊢
  have:=dd (lv a d)
  rw [<- FM a,<- FM d] at l1
  rw [<- FM a,<- FM e] at l2
  omega
 ·have x:=Ra l2 (show lv a e+1<=lv a d by omega)
  have y:=Mo ha hd (by omega)
  have:=dd (lv a d)
  have:=ad (lv a d)
  omega
def jn (a b:Nat):Nat:=1+8*lv a b+b / 8 ^ lv a b % 8
def Yg {c:Nat} (h:a / c<b / c):a<b:=by
 refine Nat.not_le.1 λq=>?_
 have:=AEr (c:=c) q
 omega
def vI (ha:tk a) (hb:tk b) (hd:tk d) (h:a<=b) (hj:rn a d<=jn a b):rn b d<=rn a d-1:=by
 by_cases c:d<=b
 ·rw [Mp b d c]
  exact AFQ _
 have hj':=hj
 rw [GH a d (by omega)] at hj ⊢
 rw [GH b d (by omega)]
 have l1:=Ip ha hd
 have l2:=Ip ha hb
 have m1:=AE8 (d / 8 ^ lv a d) (show 0<8 by decide)
 have m2:=AE8 (b / 8 ^ lv a b) (show 0<8 by decide)
 have m3:=AE8 (d / 8 ^ lv b d) (show 0<8 by decide)
 have bd:∀ k,b / 8 ^ k<=d / 8 ^ k:=λk=>AEr (by omega)
 have ab:∀ k,a / 8 ^ k<=b / 8 ^ k:=λk=>AEr h
 unfold jn at hj
 rcases AEu (lv a d) (lv a b) with q | q | q
 ·have x:=Ra l1 (show lv a d+1<=lv a b by omega)
  have y:=Mo ha hb (by omega)
  have:=bd (lv a b)
  have:=ab (lv a b)
  omega
 ·have e:b / 8 ^ lv a b=d / 8 ^ lv a b:=by
   rw [q] at hj l1 m1
   have:=bd (lv a b)
   rw [<- FM a,<- FM d] at l1
   rw [<- FM a,<- FM b] at l2
   omega
  have lt:lv b d<lv a b:=by
   refine Nat.not_le.1 λg=>?_
   by_cases z:lv b d=0
   ·rw [show lv a b=0 by omega] at e
    simp at e
    omega
   ·exact absurd (Ra e g) (Mo hb hd z)
  omega
 ·omega
def nH (ha:tk a) (hb:tk b) (hd:tk d) (_h:a<=b) (hj:jn a b<rn a d):rn b d=rn a d:=by
 have c:a<d:=by
  refine Nat.not_le.1 λg=>?_
  rw [Mp a d g] at hj
  omega
 rw [GH a d c] at hj ⊢
 have l1:=Ip ha hd
 have l2:=Ip ha hb
 have m1:=AE8 (d / 8 ^ lv a d) (show 0<8 by decide)
 have m2:=AE8 (b / 8 ^ lv a b) (show 0<8 by decide)
 have ad:∀ k,a / 8 ^ k<=d / 8 ^ k:=λk=>AEr (by omega)
 unfold jn at hj
 have key:lv a b<=lv a d/\b / 8 ^ lv a d<d / 8 ^ lv a d/\b / 8 ^ (lv a d+1)=d / 8 ^ (lv a d+1):=by
  rcases AEu (lv a d) (lv a b) with q | q | q
  ·omega
  ·rw [<- q] at l2 hj
   refine ⟨by omega,?_,l2.symm.trans l1⟩
   rw [<- FM a,<- FM d] at l1
   rw [<- FM a,<- FM b] at l2
   omega
  ·have x:=Ra l2 (show lv a b+1<=lv a d by omega)
   have y:=Mo ha hd (by omega)
   refine ⟨by omega,?_,(Ra x (Nat.le_succ _)).symm.trans l1⟩
   have:=ad (lv a d)
   omega
 obtain ⟨k1,k2,k3⟩:=key
 have bd:=Yg k2
 have e:lv b d=lv a d:=AB7 hb hd k3 (Or.inr (by omega))
 rw [GH b d bd,e]
abbrev It:=Int×Int
def lt (x y:It):Prop:=x.1<y.1\/(x.1=y.1/\x.2<y.2)
instance (x y:It):Decidable (lt x y):=by unfold lt;infer_instance
def BV (L:List It):Prop:=L.Pairwise lt
def cm (x y:It):Int:=if x.1<y.1 then -1 else if y.1<x.1 then 1 else if x.2<y.2 then -1 else if y.2<x.2 then 1 else 0
def Qe (x y:It):cm x y<0↔lt x y:=by
 unfold cm lt
 repeat' split
 all_goals omega
def lt_trans {x y z:It} (h:lt x y) (k:lt y z):lt x z:=by unfold lt at *;omega
def lt_irrefl (x:It):¬ lt x x:=by unfold lt;omega
def at_ (L:List It) (x:It):Nat:=(L.filter λy=>decide (lt y x)).length
def ins (x:It) (L:List It):List It:=L.filter (λy=>decide (lt y x))++x::L.filter (λy=>decide (lt x y))
def Av (i:Int) (L:List It):List It:=L.filter λy=>decide (y.2≠i)
def Cv:∀ {L:List It} (_:BV L) (x:It),L=L.filter (λy=>decide (lt y x))++L.filter (λy=>!decide (lt y x))
 | [],_,_=>rfl
 | y::L,h,x=>by
  have h':=AER.1 h
  by_cases e:lt y x
  ·rw [AEM (by simpa using e),AEE (by simpa using e),ADo,<- Cv h'.2 x]
  ·rw [AEE (by simpa using e),AEM (by simpa using e)]
   have e1:L.filter (λy=>decide (lt y x))=[]:=AEI.2 λz hz g=>e (lt_trans (h'.1 z hz) (by simpa using g))
   have e2:L.filter (λy=>!decide (lt y x))=L:=AEL.2 λz hz=>by simp;exact λg=>e (lt_trans (h'.1 z hz) g)
   rw [e1,e2]
   rfl
def take_at {L:List It} (h:BV L) (x:It):L.take (at_ L x)=L.filter λy=>decide (lt y x):=by
 have e:=AHo (List.take (at_ L x)) (Cv h x)
 rw [e]
 exact List.take_left' rfl
def Uo {L:List It} (h:BV L) (x:It):L.drop (at_ L x)=L.filter λy=>!decide (lt y x):=by
 have e:=AHo (List.drop (at_ L x)) (Cv h x)
 rw [e]
 exact List.drop_left' rfl
def Rb {x y:It} (h:¬ lt y x) (n:y≠x):lt x y:=by
 obtain ⟨a,b⟩:=x
 obtain ⟨c,d⟩:=y
 rw [Ne,AEj] at n
 unfold lt at *
 dsimp only at *
 omega
def lt_asymm {x y:It} (h:lt x y):¬ lt y x:=by unfold lt at *;omega
def Pa {L:List It} {x:It} (h:x∉L):L.filter (λy=>!decide (lt y x))=L.filter λy=>decide (lt x y):=by
 refine AEN λy hy=>?_
 have ne:y≠x:=λe=>h (e ▸ hy)
 by_cases e:lt y x
 ·simp [e,lt_asymm e]
 ·simp [e,Rb e ne]
def Yh {L:List It} (h:BV L) {x:It} (hx:x∉L):ins x L=L.take (at_ L x)++x::L.drop (at_ L x):=by
 rw [take_at h,Uo h,Pa hx]
 rfl
def Kj (L:List It) (x:It):at_ L x<=L.length:=ADq _ _
def DG {L:List It} (h:BV L) (p:It->Bool):BV (L.filter p):=AFX p h
def Up {L:List It} (h:BV L) (x:It):BV (ins x L):=by
 unfold ins BV
 rw [AFo,AER]
 refine ⟨DG h _,⟨λy hy=>by simpa using (AD9.1 hy).2,DG h _⟩,λa ha b hb=>?_⟩
 have h1:lt a x:=by simpa using (AD9.1 ha).2
 rcases AD0.1 hb with rfl | hb
 ·exact h1
 ·exact lt_trans h1 (by simpa using (AD9.1 hb).2)
def WC {L:List It} (x:It) (p:It->Bool):(ins x L).filter p=if p x=true then ins x (L.filter p) else (L.filter p).filter (λy=>decide (lt y x))++(L.filter p).filter λy=>decide (lt x y):=by
 unfold ins
 rw [AEQ,AE4]
 simp only [AEa]
 have e:∀ q:It->Bool,(λa=>p a&&q a)=λa=>q a&&p a:=λq=>by funext a;rw [AF2]
 rw [e,e]
 split <;> rfl
def LJ {L:List It} (h:BV L) {x:It} (hx:x∉L):L.filter (λy=>decide (lt y x))++L.filter (λy=>decide (lt x y))=L:=by
 rw [<- Pa hx,<- Cv h]
def Hv {L:List It} {x y:It} (hx:x∉L):y∈ins x L↔y=x\/y∈L:=by
 unfold ins
 rw [ADi,AD0,AD9,AD9]
 constructor
 ·rintro (h | h | h)
  ·exact Or.inr h.1
  ·exact Or.inl h
  ·exact Or.inr h.1
 ·rintro (h | h)
  ·exact Or.inr (Or.inl h)
  ·by_cases e:lt y x
   ·exact Or.inl ⟨h,by simpa using e⟩
   ·exact Or.inr (Or.inr ⟨h,by simpa using Rb e (λq=>hx (q ▸ h))⟩)
def nI {L:List It} (h:BV L) {x:It} (hx:x∉L):(ins x L).length=L.length+1:=by
 have:=AHo List.length (LJ h hx)
 rw [ADa] at this
 unfold ins
 rw [ADa,ADy]
 omega
def Yi {L:List It} (h:BV L) {x:It} (hx:x∈L):L=L.take (at_ L x)++x::L.drop (at_ L x+1):=by
 have e:=Cv h x
 have hm:x∈L.filter (λy=>!decide (lt y x)):=AD9.2 ⟨hx,by simpa using lt_irrefl x⟩
 have hs:=DG h (λy=>!decide (lt y x))
 rw [<- List.drop_drop,take_at h,Uo h]
 cases q:L.filter (λy=>!decide (lt y x)) with
 | nil=>rw [q] at hm;cases hm
 | cons z M=>
  rw [q] at hm hs e
  have hz:¬ lt z x:=by
   have:z∈L.filter (λy=>!decide (lt y x)):=by rw [q];exact ADX
   simpa using (AD9.1 this).2
  obtain rfl:x=z:=by
   rcases AD0.1 hm with g | g
   ·exact g
   ·exact absurd ((AER.1 hs).1 x g) hz
  simpa using e
def kI {L:List It} (h:BV L) {x:It} (hx:x∈L):at_ L x<L.length:=by
 have e:=AHo List.length (Yi h hx)
 rw [ADa,ADy,AEW,AE5] at e
 have:=Kj L x
 omega
def Cw (L:List It):Prop:=L.Pairwise λx y=>x.2≠y.2
def Fg {L:List It} (h:Cw L) (p:It->Bool):Cw (L.filter p):=AFX p h
def Mq:∀ {L:List It} (_:Cw L) {x y:It},x∈L->y∈L->x.2=y.2->x=y
 | [],_,_,_,hx,_,_=>by cases hx
 | z::L,h,x,y,hx,hy,e=>by
  have h':=AER.1 h
  rcases AD0.1 hx with h1 | h1
  ·rcases AD0.1 hy with h2 | h2
   ·rw [h1,h2]
   ·rw [h1] at e
    exact absurd e (h'.1 y h2)
  ·rcases AD0.1 hy with h2 | h2
   ·rw [h2] at e
    exact absurd e.symm (h'.1 x h1)
   ·exact Mq h'.2 h1 h2 e
def Yj {L:List It} (h:BV L) (u:Cw L) {x:It} (hx:x∈L):Av x.2 L=L.take (at_ L x)++L.drop (at_ L x+1):=by
 have e:=Yi h hx
 have u2:=u
 rw [e] at u2
 unfold Cw at u2
 rw [AFo,AER] at u2
 have f:=AHo (Av x.2) e
 rw [f]
 unfold Av
 rw [AEQ,AEE (by simp)]
 congr 1
 ·exact AEL.2 λz hz=>by simpa using u2.2.2 z hz x ADX
 ·exact AEL.2 λz hz=>by simpa using λg=>u2.2.1.1 z hz g.symm
def WD (i:Int) (L:List It) (p:It->Bool):(Av i L).filter p=Av i (L.filter p):=by
 unfold Av
 rw [AEa,AEa]
 congr 1
 funext a
 rw [AF2]
def Ly {L:List It} (h:∀ x∈L,x.2≠i):Av i L=L:=AEL.2 λz hz=>by simpa using h z hz
def OY {L:List It} (h:BV L) (i:Int):BV (Av i L):=DG h _
def Kk {L:List It} (h:Cw L) (i:Int):Cw (Av i L):=Fg h _
def Fs {L:List It} {x:It}:x∈Av i L↔x∈L/\x.2≠i:=by
 unfold Av
 rw [AD9]
 simp
def Uq {L:List It} (h:BV L) (u:Cw L) {x:It} (hx:x∈L):(Av x.2 L).length+1=L.length:=by
 have l:=kI h hx
 rw [Yj h u hx,ADa,AEW,AE5]
 omega
def OZ {L:List It} (u:Cw L) {x:It} (hx:∀ y∈L,y.2≠x.2):Cw (ins x L):=by
 have u1:=u
 unfold ins Cw
 rw [AFo,AER]
 refine ⟨Fg u _,⟨λy hy=>λe=>hx y (AD9.1 hy).1 e.symm,Fg u _⟩,λa ha b hb=>?_⟩
 rcases AD0.1 hb with rfl | hb
 ·exact hx a (AD9.1 ha).1
 ·intro e
  have q:=Mq u (AD9.1 ha).1 (AD9.1 hb).1 e
  have h1:lt a x:=by simpa using (AD9.1 ha).2
  have h2:lt x b:=by simpa using (AD9.1 hb).2
  rw [<- q] at h2
  exact lt_asymm h1 h2
def wn (L:List It) (i:Int):Option Int:=(L.find? λy=>decide (y.2=i)).map (·.1)
def Kl {L:List It} (u:Cw L) {x:It} (hx:x∈L):wn L x.2=some x.1:=by
 unfold wn
 cases e:L.find? λy=>decide (y.2=x.2) with
 | none=>
  have:=ADw.1 e x hx
  simp at this
 | some y=>
  have h1:=AEG e
  have h2:=AEo e
  rw [Mq u h1 hx (by simpa using h2)]
  rfl
def Dm {L:List It}:wn L i=none↔∀ x∈L,x.2≠i:=by
 unfold wn
 rw [Option.map_eq_none_iff,ADw]
 simp
def Mr {L:List It} {d:Int} (h:wn L i=some d):(d,i)∈L:=by
 unfold wn at h
 cases e:L.find? λy=>decide (y.2=i) with
 | none=>rw [e] at h;cases h
 | some y=>
  rw [e] at h
  have h1:=AEG e
  have h2:y.2=i:=by simpa using AEo e
  simp at h
  rw [<- h,<- h2]
  exact h1
def Yk {L:List It} (u:Cw L) {x:It} (hx:∀ y∈L,y.2≠x.2) (i:Int):wn (ins x L) i=if i=x.2 then some x.1 else wn L i:=by
 have nx:x∉L:=λh=>hx x h rfl
 have u2:=OZ u hx
 by_cases e:i=x.2
 ·rw [AHi e,e]
  exact Kl u2 ((Hv nx).2 (Or.inl rfl))
 ·rw [AHh e]
  cases g:wn L i with
  | none=>
   rw [Dm] at g ⊢
   intro y hy
   rcases (Hv nx).1 hy with rfl | hy
   ·exact λq=>e q.symm
   ·exact g y hy
  | some d=>exact Kl u2 (x:=(d,i)) ((Hv nx).2 (Or.inr (Mr g)))
def Yl {L:List It} (u:Cw L) (j i:Int):wn (Av j L) i=if i=j then none else wn L i:=by
 by_cases e:i=j
 ·rw [AHi e,Dm]
  intro y hy
  rw [e]
  exact (Fs.1 hy).2
 ·rw [AHh e]
  cases g:wn L i with
  | none=>
   rw [Dm] at g ⊢
   exact λy hy=>g y (Fs.1 hy).1
  | some d=>exact Kl (Kk u j) (x:=(d,i)) (Fs.2 ⟨Mr g,e⟩)
def rl (f:It->Nat) (L:List It) (r:Nat):List It:=L.filter λx=>decide (f x=r)
def rm (now:Int) (x:It):Nat:=rn now.toNat x.1.toNat
def Hw (L:List It):Prop:=∀ x∈L,0<=x.1/\x.1<=1152921504606846976
def Gq (f:It->Nat):∀ (N:Nat) (L:List It),L.Pairwise (λx y=>f x<=f y)->(List.range N).flatMap (rl f L)=L.filter λx=>decide (f x<N)
 | 0,L,_=>by simp
 | N+1,L,h=>by
  rw [AEK,AES,Gq f N L h]
  simp only [List.flatMap_cons,List.flatMap_nil,AFl]
  induction L with
  | nil=>rfl
  | cons y L ih=>
   have h':=AER.1 h
   have ih':=ih h'.2
   unfold rl at *
   by_cases c:f y<N
   ·rw [AEM (by simpa using c),AEE (by simp;omega),AEM (by simp;omega),ADo,ih']
   ·have e0:L.filter (λx=>decide (f x<N))=[]:=AEI.2 λz hz=>by have:=h'.1 z hz;simp;omega
    rw [e0,ADv] at ih'
    rw [AEE (by simpa using c),e0,ADv]
    by_cases c2:f y=N
    ·rw [AEM (by simpa using c2),AEM (by simp;omega),ih']
    ·rw [AEE (by simpa using c2),AEE (by simp;omega),ih']
def Km {L:List It} (h:BV L) (t:Hw L) (h1:0<=now) (h2:now<=1152921504606846976):L.Pairwise λx y=>rm now x<=rm now y:=by
 refine List.Pairwise.imp_of_mem ?_ h
 intro x y hx hy l
 have a:=t x hx
 have b:=t y hy
 unfold rm
 refine nG (by unfold tk;omega) (by unfold tk;omega) (by unfold tk;omega) ?_
 unfold lt at l
 omega
def Ir {x:It} (h1:0<=now) (h2:now<=1152921504606846976) (t:0<=x.1/\x.1<=1152921504606846976):rm now x<169:=by
 unfold rm
 exact AB8 (by unfold tk;omega) (by unfold tk;omega)
def Oa {x:It} (h1:0<=now) (t:0<=x.1):rm now x=0↔x.1<=now:=by
 unfold rm
 rw [nF]
 omega
def nJ {L:List It} (h:BV L) (t:Hw L) (h1:0<=now) (h2:now<=1152921504606846976):(List.range 169).flatMap (rl (rm now) L)=L:=by
 rw [Gq _ _ _ (Km h t h1 h2)]
 exact AEL.2 λx hx=>by simpa using Ir h1 h2 (t x hx)
def vJ {L:List It} (t:Hw L) (h1:0<=now):rl (rm now) L 0=L.filter λx=>decide (x.1<=now):=by
 unfold rl
 refine AEN λx hx=>?_
 simp only [Oa h1 (t x hx).1]
def fj (a b:Int) (j:Nat) (x:It):Nat:=if rm a x<=j then rm b x else rm a x
def Pb (f g:It->Nat) (j r:Nat) (hr:r≠j+1):∀ (L:List It),L.Pairwise (λx y=>f x<=f y)->(∀ x∈L,f x<=j+1->g x<=f x-1)->
 L.filter (λx=>decide ((if f x<=j then g x else f x)=r))++L.filter (λx=>decide (f x=j+1)&&decide (g x=r))=L.filter (λx=>decide ((if f x<=j+1 then g x else f x)=r))
 | [],_,_=>rfl
 | y::L,h,k=>by
  have h':=AER.1 h
  have ih:=Pb f g j r hr L h'.2 λx hx=>k x (ADV _ hx)
  have ky:=k y ADX
  by_cases c:f y<=j
  ·have c2:f y<=j+1:=by omega
   have c3:¬ f y=j+1:=by omega
   simp only [AE4,c,c2,c3,AHn,decide_false,AEm,AHh Bool.false_ne_true]
   split
   ·rw [ADo,ih]
   ·exact ih
  ·by_cases d:f y=j+1
   ·have c2:f y<=j+1:=by omega
    have gy:=ky c2
    have e1:¬ f y=r:=λq=>hr (q ▸ d)
    rw [AEE (by rw [AHh c];simpa using e1)]
    by_cases gr:g y=r
    ·have e0:L.filter (λx=>decide ((if f x<=j then g x else f x)=r))=[]:=AEI.2 λz hz=>by
      have:=h'.1 z hz
      rw [AHh (by omega)]
      simp
      omega
     rw [e0,ADv] at ih ⊢
     rw [AEM (by simp [d,gr]),AEM (by rw [AHi c2];simpa using gr),ih]
    ·rw [AEE (by simp [gr]),AEE (by rw [AHi c2];simpa using gr)]
     exact ih
   ·have c2:¬ f y<=j+1:=by omega
    simp only [AE4,c,c2,d,AHm,decide_false,AEm,AHh Bool.false_ne_true]
    split
    ·rw [ADo,ih]
    ·exact ih
def Tn {a b:Int} {L:List It} (h:BV L) (t:Hw L) (a1:0<=a) (ab:a<=b) (b2:b<=1152921504606846976) {j:Nat} (hj:j+1<=jn a.toNat b.toNat) (r:Nat):
 (if r=j+1 then [] else rl (fj a b j) L r)++rl (rm b) (rl (fj a b j) L (j+1)) r=rl (fj a b (j+1)) L r:=by
 have low:∀ x∈L,rm a x<=j+1->rm b x<=rm a x-1:=λx hx hl=>by
  have:=t x hx
  unfold rm at *
  exact vI (by unfold tk;omega) (by unfold tk;omega) (by unfold tk;omega) (by omega) (by omega)
 have e1:rl (fj a b j) L (j+1)=L.filter λx=>decide (rm a x=j+1):=by
  unfold rl
  refine AEN λx hx=>?_
  have:=low x hx
  unfold fj
  simp only [AHp]
  split <;> omega
 have e2:rl (rm b) (rl (fj a b j) L (j+1)) r=L.filter λx=>decide (rm a x=j+1)&&decide (rm b x=r):=by
  rw [e1]
  unfold rl
  rw [AEa]
  congr 1
  funext x
  rw [AF2]
 rw [e2]
 by_cases hr:r=j+1
 ·subst hr
  rw [AHi rfl,ADv]
  have z1:L.filter (λx=>decide (rm a x=j+1)&&decide (rm b x=j+1))=[]:=AEI.2 λx hx=>by
   have:=low x hx
   simp
   omega
  have z2:rl (fj a b (j+1)) L (j+1)=[]:=AEI.2 λx hx=>by
   have:=low x hx
   unfold fj
   simp
   split <;> omega
  rw [z1,z2]
 ·rw [AHh hr]
  exact Pb (rm a) (rm b) j r hr L (Km h t a1 (by omega)) low
def Rc {a b:Int} {L:List It} (t:Hw L) (a1:0<=a) (ab:a<=b) (r:Nat):rl (fj a b 0) L r=rl (rm a) L r:=by
 unfold rl
 refine AEN λx hx=>?_
 have q:=t x hx
 have e:fj a b 0 x=rm a x:=by
  unfold fj
  split
  ·rename_i h
   have h0:rm a x=0:=by omega
   rw [h0]
   have:=(Oa a1 q.1).1 h0
   exact (Oa (by omega) q.1).2 (by omega)
  ·rfl
 rw [e]
def WE {a b:Int} {L:List It} (t:Hw L) (ab:a<=b) (b2:b<=1152921504606846976) (r:Nat):rl (fj a b (jn a.toNat b.toNat)) L r=rl (rm b) L r:=by
 unfold rl
 refine AEN λx hx=>?_
 have q:=t x hx
 have e:fj a b (jn a.toNat b.toNat) x=rm b x:=by
  unfold fj
  split
  ·rfl
  ·rename_i h
   unfold rm at *
   exact (nH (by unfold tk;omega) (by unfold tk;omega) (by unfold tk;omega) (by omega) (by omega)).symm
 rw [e]
def GJ (g:It->Nat) (R:Nat->List It) (j k:Nat):Nat->List It:=λr=>(if r=j then [] else R r)++rl g ((R j).take k) r
def mid_step (g:It->Nat) (R:Nat->List It) (j k:Nat) (x:It) (hx:(R j)[k]?=some x) (r:Nat):GJ g R j (k+1) r=if r=g x then GJ g R j k r++[x] else GJ g R j k r:=by
 obtain ⟨hk,e⟩:=ADc.1 hx
 unfold GJ rl
 rw [AE3 hk,e,AEQ,AE4,List.filter_nil]
 by_cases q:g x=r
 ·rw [AHi q.symm,AHi (show decide (g x=r)=true by simpa using q),AEs]
 ·rw [AHh (λp=>q p.symm:¬ r=g x),AHh (show ¬ decide (g x=r)=true by simpa using q),AFl]
def mid_end (g:It->Nat) (R:Nat->List It) (j:Nat) (r:Nat):GJ g R j (R j).length r=(if r=j then [] else R r)++rl g (R j) r:=by
 unfold GJ
 rw [AEV]
def Ym (g:It->Nat) (R:Nat->List It) (j:Nat) (r:Nat):GJ g R j 0 r=if r=j then [] else R r:=by
 unfold GJ rl
 simp
def vK {f:It->Nat} {L:List It} (h:BV L) {x:It} (hx:x∉L) (r:Nat):rl f (ins x L) r=if r=f x then ins x (rl f L r) else rl f L r:=by
 unfold rl
 rw [WC]
 by_cases e:f x=r
 ·rw [AHi (by simpa using e),AHi e.symm]
 ·rw [AHh (by simpa using e),AHh (λq=>e q.symm),LJ (DG h _) (λq=>hx (AD9.1 q).1)]
def vL {f:It->Nat} {L:List It} (u:Cw L) {x:It} (hx:x∈L) (r:Nat):rl f (Av x.2 L) r=if r=f x then Av x.2 (rl f L r) else rl f L r:=by
 unfold rl
 rw [WD]
 by_cases e:f x=r
 ·rw [AHi e.symm]
 ·rw [AHh (λq=>e q.symm)]
  refine Ly λy hy g=>?_
  obtain ⟨h1,h2⟩:=AD9.1 hy
  have:=Mq u h1 hx g
  rw [this] at h2
  exact e (by simpa using h2)
def Re {f:It->Nat} {L:List It} (h:BV L) (r:Nat):BV (rl f L r):=DG h _
def vM {f:It->Nat} {L:List It} (h:Cw L) (r:Nat):Cw (rl f L r):=Fg h _
def Ms {f:It->Nat} {L:List It} {x:It} {r:Nat}:x∈rl f L r↔x∈L/\f x=r:=by
 unfold rl
 rw [AD9]
 simp
def Hx (f:It->Nat) (L:List It) (r:Nat):(rl f L r).length<=L.length:=ADq _ _
end Go.Proofs.YtdlhlfpigcgapaaGreatDoor.Wm
namespace Go.Proofs.YtdlhlfpigcgapaaGreatDoor.Tim
open Go.Proofs.Tryz
open Slt
open Go.ChangeShapes Go.WideShapes Go.ChangeAt Go.RowKit
open Wm
variable {L:List It} {W w w' w1 w2 wr:World} {V cs cur:List Value} {mp:Option Nat} {f:Int->Option Int} {R:Nat->List It} {B b c cap g i j k m mb n r s vb:Nat} {d id now:Int} {F S:List Nat} {Q:Exit->Act->World->Prop} {v v':Value} {t te tv:TypeId} {a:Option Addr} {K:Act->World->Prop} {ops:Array Oper} {P:Program} {α:Type} {x:It} {o:Oper} {E:Prop}
def Af (x:It):List Value:=[.int .i64 x.2,.int .i64 x.1]
def cls (L:List It):List Value:=L.flatMap Af
def GK (x:It) (L:List It):cls (x::L)=.int .i64 x.2::.int .i64 x.1::cls L:=rfl
def Bb (L:List It):(cls L).length=L.length*2:=by
 induction L with
 | nil=>rfl
 | cons x L ih=>rw [GK,ADy,ADy,ADy,ih];omega
def Kn (A B:List It):cls (A++B)=cls A++cls B:=AES
def Ur:∀ (L:List It) (i:Nat) (x:It),L[i]?=some x->(cls L)[i*2]?=some (.int .i64 x.2)/\(cls L)[i*2+1]?=some (.int .i64 x.1)
 | [],i,x,h=>by simp at h
 | y::L,0,x,h=>by
  simp at h
  subst h
  exact ⟨rfl,rfl⟩
 | y::L,i+1,x,h=>by
  have:=Ur L i x (by simpa using h)
  rw [GK,show (i+1)*2=i*2+1+1 by omega]
  simpa using this
def Is:∀ (L:List It) (k:Nat),(cls L).take (k*2)=cls (L.take k)
 | [],k=>by simp [cls]
 | y::L,0=>by simp [cls]
 | y::L,k+1=>by
  rw [GK,show (k+1)*2=k*2+1+1 by omega,AFv,AFv,AFv,GK,Is L k]
def Rf:∀ (L:List It) (k:Nat),(cls L).drop (k*2)=cls (L.drop k)
 | [],k=>by simp [cls]
 | y::L,0=>by simp
 | y::L,k+1=>by
  rw [GK,show (k+1)*2=k*2+1+1 by omega,AFw,AFw,AFw,Rf L k]
def Ob (L:List It):∀ v∈cls L,v.oneCell'=true:=by
 intro v hv
 obtain ⟨x,_,hx⟩:=AEX.1 hv
 unfold Af at hx
 simp at hx
 rcases hx with rfl | rfl <;> rfl
def Own (t:TypeId) (w:World) (v:Value) (L:List It):Prop:=w.ownsRow 0 t 2 v L.length (cls L)
def Oc (t:TypeId) (w:World):Own t w (.slice none 0 0) []:=World.ownsRow_nil w 0 t 2
def Own.cases (h:Own t w v L):(v=.slice none 0 0/\L=[])\/∃ (g cap:Nat) (cur:List Value),v=.slice (some ⟨g,0,none⟩) L.length cap/\AB w g cur t/\L.length<=cap/\cap<=maxLen/\cur.length=cap*2/\cur.take (L.length*2)=cls L:=by
 rcases h.2 with ⟨h1,h2⟩ | ⟨g,cap,cur,h1,_,h2,h3,h4,h5,h6⟩
 ·exact Or.inl ⟨h1,ADh h2⟩
 ·exact Or.inr ⟨g,cap,cur.toList,h1,by unfold AB;rw [AEn];exact h2,h3,h4,by rw [AFx];exact h5,h6⟩
def Hy (h:AB w g cur t) (hn:n=L.length) (h1:L.length<=cap) (h2:cap<=maxLen) (h3:cur.length=cap*2) (h4:cur.take (L.length*2)=cls L):Own t w (.slice (some ⟨g,0,none⟩) n cap) L:=by
 subst hn
 exact ⟨Bb L,Or.inr ⟨g,cap,cur.toArray,rfl,AFQ _,h,h1,h2,by simpa using h3,by simpa using h4⟩⟩
def Own.shape (h:Own t w v L):∃ a cap,v=.slice a L.length cap:=MI h
def Own.AA (h:Own t w v L) (f:Fr B S w w') (hg:∀ g,v.ownBlock=some g->g<B/\g∉S):Own t w' v L:=Ep h f hg
def Own.lt (h:Own t w v L) (e:v.ownBlock=some g):g<w.heap.size:=Hi h e
def Own.heap {t:TypeId} {w w1:World} {v:Value} {L:List It} (h:Own t w v L) (e:w1.heap=w.heap):Own t w1 v L:=by
 rcases h.cases with ⟨rfl,rfl⟩ | ⟨g,cap,cur,rfl,hb,h1,h2,h3,h4⟩
 ·exact Oc t w1
 ·exact Hy (hb.heap e) rfl h1 h2 h3 h4
def Own.ne {t u:TypeId} {w:World} {v:Value} {L:List It} {b:Nat} {cs:List Value} (h:Own t w v L) (k:AB w b cs u) (ne:t≠u) {g:Nat} (e:v.ownBlock=some g):b≠g:=UM h k ne e
def Own.cell {t:TypeId} {w:World} {a:Option Addr} {n cap:Nat} {L:List It} (h:Own t w (.slice a n cap) L) {i:Nat} (hi:i<L.length):∃ g,a=some ⟨g,0,none⟩/\∀ x,L[i]?=some x->w.cell? ⟨g,i*2,none⟩=some (.int .i64 x.2)/\w.cell? ⟨g,i*2+1,none⟩=some (.int .i64 x.1):=by
 rcases h.cases with ⟨_,rfl⟩ | ⟨g,c,cur,e,hb,h1,h2,h3,h4⟩
 ·simp at hi
 ·simp only [Value.slice.injEq] at e
  refine ⟨g,e.1,λx hx=>?_⟩
  obtain ⟨c1,c2⟩:=Ur L i x hx
  rw [<- h4,ADm] at c1 c2
  rw [AHi (by omega)] at c1 c2
  rw [hb.cell,hb.cell]
  exact ⟨c1,c2⟩
def Own.cells (h:Own t w (.slice (some ⟨g,0,none⟩) n cap) L) (k:Nat):∀ j v,(cls (L.drop k))[j]?=some v->w.cell? ⟨g,k*2+j,none⟩=some v:=by
 intro j v hj
 rcases h.cases with ⟨e,_⟩ | ⟨g2,c,cur,e,hb,h1,h2,h3,h4⟩
 ·simp at e
 ·simp only [Value.slice.injEq,AEB,Addr.mk.injEq] at e
  obtain ⟨⟨rfl,_⟩,_⟩:=e
  have hl:=(ADc.1 hj).1
  rw [Bb,AE5] at hl
  rw [<- Rf,AE0,<- h4,ADm,AHi (by omega)] at hj
  rw [hb.cell]
  exact hj
def Az (g:Nat) (t:TypeId):∀ (vs:List Value) (o:Nat) (cur:List Value) (w:World),AB w g cur t->o+vs.length<=cur.length->AB (w.setCells g o vs) g (cur.take o++vs++cur.drop (o+vs.length)) t
 | [],o,cur,w,h,_=>by
  show AB w g _ t
  simpa using h
 | v::r,o,cur,w,h,hl=>by
  have:=Az g t r (o+1) (cur.set o v) (w.setCell ⟨g,o,none⟩ v) (h.set o v) (by simp at hl ⊢;omega)
  rw [list_seg_step cur o v r (by simpa using hl)] at this
  exact this
def BQ {B:Nat} {S:List Nat} {a:World} (g:Nat) (hg:B<=g\/g∈S):∀ (vs:List Value) (o:Nat) (w:World),Fr B S a w->Fr B S a (w.setCells g o vs)
 | [],_,_,h=>h
 | v::r,o,_,h=>BQ g hg r (o+1) _ (h.setCell hg v)
def JI (g:Nat):∀ (vs:List Value) (o:Nat) (w w1:World),w1.heap=w.heap->(w1.setCells g o vs).heap=(w.setCells g o vs).heap
 | [],_,_,_,h=>h
 | v::r,o,w,w1,h=>JI g r (o+1) _ _ (by simp [World.setCell,h])
def Cf (cur vs:List α) (o:Nat) (h:o+vs.length<=cur.length) (k:Nat):(cur.take o++vs++cur.drop (o+vs.length))[k]?=if o<=k/\k<o+vs.length then vs[k-o]? else cur[k]?:=by
 have lt:(cur.take o).length=o:=by simp;omega
 rw [AEs,AFH,lt]
 by_cases c1:k<o
 ·rw [AHi c1,AHh (by omega),ADm,AHi c1]
 ·rw [AHh c1,AFH]
  by_cases c2:k-o<vs.length
  ·rw [AHi c2,AHi (by omega)]
  ·rw [AHh c2,AHh (by omega),AE0]
   congr 1
   omega
def Cg (cur vs:List α) (o:Nat) (h:o+vs.length<=cur.length):(cur.take o++vs++cur.drop (o+vs.length)).length=cur.length:=by simp;omega
def Us {l m:List α} (hk:m.length=k) (h:∀ j,j<k->l[j]?=m[j]?):l.take k=m:=by
 apply AEH
 intro j
 rw [ADm]
 by_cases c:j<k
 ·rw [AHi c]
  exact h j c
 ·rw [AHh c,ADg (by omega)]
section
variable {P:Program}
def Fh (w:World) (dT sT ty elem:TypeId) (size b o dLen dCap:Nat) (a:Addr) (sLen sCap m:Nat) (cs:List Value)
 (hu:P.underlying dT=some (.slice elem)) (hs:(P.info? elem).map (·.size)=some size) (hm:m=Nat.min sLen dLen) (hn:cs.length=m*size)
 (hsrc:∀ j v,cs[j]?=some v->w.cell? (a.add j)=some v) (hc:∀ j,j<cs.length->(w.cell? ⟨b,o+j,none⟩).isSome=true) (hf:∀ j,j<cs.length->w.frozen? ⟨b,o+j,none⟩=false) (h1:∀ v∈cs,v.oneCell'=true):
 (Builtin.copy_ #[dT,sT] ty #[.slice (some ⟨b,o,none⟩) dLen dCap,.slice (some a) sLen sCap]).run P w=.ok (goInt m) (w.setCells b o cs):=by
 have hfc:=run_firstCells_some (P:=P) w size m a sLen sCap cs hn hsrc
 have hst:=run_storeCells_cells (P:=P) b o cs 0 w (by simpa using hc) (by simpa using hf) h1
 simp only [Nat.add_zero] at hst
 cases hq:P.info? elem with
 | none=>simp [hq] at hs
 | some i=>
  have hi:i.size=size:=by simpa [hq] using hs
  simp [Builtin.copy_,run_underlying hu,Builtin.lenOf,sizeOf,typeInfo,hq,hi,<- hm,hfc,hst]
def QQ (w:World) (t e ty:TypeId) (ht:P.underlying t=some (.slice e)) (hv:∀ w,(zeroValue e).run P w=.ok (.agg #[.int .i64 0,.int .i64 0]) w) (b o c:Nat)
 (hc:∀ j,j<2->(w.cell? ⟨b,o+j,none⟩).isSome=true) (hf:∀ j,j<2->w.frozen? ⟨b,o+j,none⟩=false):
 (Builtin.clear_ #[t] ty #[.slice (some ⟨b,o,none⟩) 1 c]).run P w=.ok (.tuple #[]) (w.setCells b o [.int .i64 0,.int .i64 0]):=by
 have hzc:(Builtin.zeroCells (Value.agg #[.int .i64 0,.int .i64 0]).cells 1).toList=[.int .i64 0,.int .i64 0]:=by kernel_rfl
 have hst:=run_storeCells_cells (P:=P) b o [.int .i64 0,.int .i64 0] 0 w (by simpa using hc) (by simpa using hf) (by intro v hv';simp at hv';subst hv';rfl)
 simp only [Nat.add_zero] at hst
 simp [Builtin.clear_,run_underlying ht,hv,hzc,hst]
end
def Tryz.Mu:(prog.info? 299).map (λi=>(i.zero,i.size,i.bytes))=some (some (.agg #[.int .i64 0,.int .i64 0]),2,16):=by kernel_rfl
def Mw:(prog.info? 299).map (·.size)=some 2:=by kernel_rfl
def vN (w:World):(zeroValue 299).run prog w=.ok (.agg #[.int .i64 0,.int .i64 0]) w:=by kernel_rfl
def JJ {a:Act} 
 (hg:o.guard=none) (d x:Operand) (dT sT:TypeId) (hop:o.op=Op.call { callee:=Callee.builtin Builtin.copy,args:=#[d,x],argTypes:=#[dT,sT] })
 (v u:Value) (hd:a.eval d=v) (hx:a.eval x=u) (hr:(Builtin.copy_ #[dT,sT] o.type #[v,u]).run P w=.ok v' w') (hK:K (a.put o.dst v') w'):
 if Region.wanted o (yielded ops a.tmps)=true then Oper.wp P o a w K Q else E:=by
 have hw:Region.wanted o (yielded ops a.tmps)=true:=by simp [Region.wanted,hg]
 rw [AHi hw]
 unfold Oper.wp
 simp [execOp,hop,resolve,invoke,builtin,hd,hx,hr,Result.andThen]
 exact hK
def To (hb:AB w g cur 299) (hi:i<L.length) (hroom:L.length+1<=cap) (hcap:cap<=maxLen) (hcl:cur.length=cap*2) (htk:cur.take (L.length*2)=cls L)
 (hv:AB w vb (Af x) tv) (hvg:vb≠g):
 Calls prog 322 #[.slice (some ⟨g,0,none⟩) L.length cap,.int .i64 i,.slice (some ⟨vb,0,none⟩) 1 c] w λe w'=>
  e=.returned (.slice (some ⟨g,0,none⟩) (L.length+1) cap)/\w'=(w.drew.setCells g ((i+1)*2) (cls (L.drop i))).setCells g (i*2) (Af x):=by
 have ho:Own 299 w (.slice (some ⟨g,0,none⟩) L.length cap) L:=Hy hb rfl (by omega) hcap hcl htk
 have hsome:∀ k,k<cap*2->(w.cell? ⟨g,k,none⟩).isSome=true:=λk hk=>by rw [hb.cell,ADZ (by omega)];rfl
 have hdl:(cls (L.drop i)).length=(L.length-i)*2:=by rw [Bb,AE5]
 have hov:∀ lb cb,(callFunc 348 #[.slice (some ⟨vb,0,none⟩) 1 c,.slice (some ⟨g,(i+1)*2,none⟩) lb cb]).run prog w=.ok (.value (.bool false)) w:=λlb cb=>by
  rw [run_callFunc_extern func348 (by kernel_rfl) (by kernel_rfl) (by kernel_rfl) (e:=Extern.SlicesOverlaps.overlaps #[230,230] #[4]) (by kernel_rfl)]
  rw [Lib.run_overlaps_apart w 230 4 299 underlying230 2 (λw=>by kernel_rfl) ⟨vb,0,none⟩ ⟨g,(i+1)*2,none⟩ 1 c lb cb hvg tv 299 2 cur.length (by simp [World.shape?,show w.heap[vb]?=_ from hv,Af]) (by simp [World.shape?,show w.heap[g]?=_ from hb]) (by omega) (hv.free 0) (hv.free 2)]
  rfl
 have hcp1:∀ ty dc sc,(Builtin.copy_ #[230,230] ty #[.slice (some ⟨g,(i+1)*2,none⟩) (L.length-i) dc,.slice (some ⟨g,i*2,none⟩) (L.length+1-i) sc]).run prog w.drew=.ok (goInt ((L.length-i:Nat):Int)) (w.drew.setCells g ((i+1)*2) (cls (L.drop i))):=λty dc sc=>
  Fh w.drew _ _ ty 299 2 g ((i+1)*2) (L.length-i) dc ⟨g,i*2,none⟩ (L.length+1-i) sc (L.length-i) (cls (L.drop i)) underlying230 Mw (by simp only [Nat.min_def];split <;> omega) hdl
   (λj v hj=>by rw [Addr.add_lit];exact ho.cells i j v hj)
   (λj hj=>hsome _ (by omega)) (λj hj=>hb.free _) (Ob _)
 obtain ⟨W1,hW1⟩:∃ W1,W1=w.drew.setCells g ((i+1)*2) (cls (L.drop i)):=⟨_,rfl⟩
 have hb1:AB W1 g (cur.take ((i+1)*2)++cls (L.drop i)++cur.drop ((i+1)*2+(cls (L.drop i)).length)) 299:=by
  rw [hW1]
  exact Az g _ _ _ cur w.drew hb (by rw [hdl];omega)
 have hv1:AB W1 vb (Af x) tv:=by
  rw [hW1]
  exact hv.AA (BQ (B:=w.heap.size) (S:=[g]) g (Or.inr (by simp)) _ _ _ (Fr.refl _ _ w).drew) hv.lt (by simpa using hvg)
 have hcp2:∀ ty dc,(Builtin.copy_ #[230,230] ty #[.slice (some ⟨g,i*2,none⟩) (L.length+1-i) dc,.slice (some ⟨vb,0,none⟩) 1 c]).run prog W1=.ok (goInt 1) (W1.setCells g (i*2) (Af x)):=λty dc=>
  Fh W1 _ _ ty 299 2 g (i*2) (L.length+1-i) dc ⟨vb,0,none⟩ 1 c 1 (Af x) underlying230 Mw (by simp only [Nat.min_def];split <;> omega) rfl
   (λj v hj=>by rw [Addr.add_lit,ADs,hv1.cell];exact hj)
   (λj hj=>by rw [hb1.cell,ADZ (by rw [Cg _ _ _ (by rw [hdl];omega)];simp [Af] at hj;omega)];rfl)
   (λj hj=>hb1.free _) (λv hv=>by unfold Af at hv;simp at hv;rcases hv with rfl | rfl <;> rfl)
 rw [<- hW1] at hcp1 ⊢
 have z1:¬ ((i:Int)=(L.length:Int)):=by omega
 have z2:((L.length:Int)+1<=(cap:Int)):=by omega
 have z3:(cap:Int)<=9223372036854775807:=by unfold maxLen at hcap;omega
 have z4:¬ (cap=i+1):=by omega
 have z5:¬ (cap=i):=by omega
 have z6:(i:Int)<(L.length:Int):=by omega
 have z7:IntKind.i64.wrap ((i:Int)+1)=(i:Int)+1:=by rw [IntKind.wrap_i64];omega
 have z8:(0:Int)<=(i:Int)+1:=by omega
 have z9:((i:Int)+1).toNat=i+1:=by omega
 have z10:(i:Int)<=(L.length:Int)+1:=by omega
 have z11:(i:Int)+1<=(L.length:Int)+1:=by omega
 have HW:Hid (W1=w.drew.setCells g ((i+1)*2) (cls (L.drop i))):=hW1
 generalize L.length=n at *
 clear hb hcl htk hv hvg ho hsome hdl hb1 hv1 hW1 hcap hi hroom
 go_enter func322,ntmps322
 go_wp2_with (simp only [hov])
 go_region_law (refine JJ rfl _ _ 230 230 rfl _ _ (by simp [Act.eval,Act.put]) (by simp [Act.eval,Act.put]) (hcp1 _ _ _) ?_)
 go_wp2_with (at_builtin;refine Mx _ rfl _ _ 230 230 rfl _ _ rfl rfl (hcp2 _ _) ?_)
 go_ret
 exact ⟨rfl,rfl⟩
def nK (w:World):Sm w w:=⟨rfl,rfl,rfl,rfl⟩
def Ut (w1 w:World) (h:Sm w1 w):Sm w1.drew w:=h
def Lz (g:Nat):∀ (vs:List Value) (o:Nat) (w1 w:World),Sm w1 w->Sm (w1.setCells g o vs) (w.setCells g o vs)
 | [],_,_,_,h=>h
 | v::r,o,w1,w,h=>Lz g r (o+1) _ _ ⟨by simp [World.setCell,h.1],h.2.1,h.2.2.1,h.2.2.2⟩
def vO (n:Nat):(Builtin.zeroCells (Value.agg #[.int .i64 0,.int .i64 0]).cells n).size=n*2:=size_zeroCells _ _
def Tp (ho:Own 299 w (.slice (some ⟨g,0,none⟩) L.length cap) L) (hgl:g<w.heap.size) (hi:i<L.length) (hcap:L.length<=cap) (hroom:cap<L.length+1) (hs:L.length<=3000)
 (hv:AB w vb (Af x) tv):
 Calls prog 322 #[.slice (some ⟨g,0,none⟩) L.length cap,.int .i64 i,.slice (some ⟨vb,0,none⟩) 1 c] w λe w'=>
  ∃ (G:Nat) (R:List Value),e=.returned (.slice (some ⟨w.heap.size,0,none⟩) (L.length+1) G)/\L.length+1<=G/\G<=maxLen/\R.length=G*2/\R.take (i*2)=cls (L.take i)/\
   Sm w' (((w.alloc (.cells R.toArray 299)).setCells w.heap.size (i*2) (Af x)).setCells w.heap.size ((i+1)*2) (cls (L.drop i))):=by
 obtain ⟨i0,hi0,hz0,hzs,hzb⟩:=info_parts Tryz.Mu
 have hkk:(L.length:Int)+1-(i:Int)=((L.length+1-i:Nat):Int):=by omega
 have hik:i+(L.length+1-i)=L.length+1:=by omega
 have hdl:(cls (L.drop i)).length=(L.length-i)*2:=by rw [Bb,AE5]
 have hold:(Builtin.firstCells i0.size i (.slice (some ⟨g,0,none⟩) i cap)).run prog w.drew=.ok (cls (L.take i)).toArray w.drew:=by
  rw [hzs]
  exact run_firstCells_some w.drew 2 i ⟨g,0,none⟩ i cap (cls (L.take i)) (by rw [Bb,AEW];omega) (λj v hj=>by
   rw [Addr.add_lit,ADs]
   have hl:=(ADc.1 hj).1
   rw [<- Is,ADm] at hj
   split at hj
   ·have:=ho.cells 0 j v (by simpa using hj)
    simpa using this
   ·cases hj)
 have hrz:∀ ty,(Builtin.append_ #[230,3] ty #[.slice (some ⟨g,0,none⟩) i cap,.int .i64 ((L.length:Int)+1-(i:Int))]).run prog w =
  .ok (.slice (some ⟨w.heap.size,0,none⟩) (L.length+1) (grownCap w (L.length+1) cap 299)) (w.drew.alloc (.cells ((cls (L.take i)).toArray++Builtin.zeroCells (Value.agg #[.int .i64 0,.int .i64 0]).cells (L.length+1-i)++Builtin.zeroCells (Value.agg #[.int .i64 0,.int .i64 0]).cells (grownCap w (L.length+1) cap 299-(L.length+1))) 299)):=λty=>by
  have h:=Lib.run_append_grow_zeros w 230 3 ty 299 i0 _ .i64 .i64 underlying230 underlying3 hi0 hz0 (some ⟨g,0,none⟩) i cap (cls (L.take i)) hold (L.length+1-i) (by omega) (by rw [hzs];omega) (by omega) (by omega) (by rw [hzb];omega) (by rw [hzb,hik];exact growslice_fits hroom (by omega))
  rw [hik] at h
  rw [hkk]
  exact h
 obtain ⟨G,hG⟩:∃ G,G=grownCap w (L.length+1) cap 299:=⟨_,rfl⟩
 have hGn:L.length+1<=G:=by rw [hG];exact grownCap_ge w _ _ _
 have hGm:G<=maxLen:=by rw [hG];exact grownCap_le_maxLen w _ _ _ (by unfold maxLen;omega)
 obtain ⟨R,hR⟩:∃ R:List Value,R.toArray=(cls (L.take i)).toArray++Builtin.zeroCells (Value.agg #[.int .i64 0,.int .i64 0]).cells (L.length+1-i)++Builtin.zeroCells (Value.agg #[.int .i64 0,.int .i64 0]).cells (G-(L.length+1)):=⟨_,AEn⟩
 rw [<- hG] at hrz
 rw [<- hR] at hrz
 have hRl:R.length=G*2:=by
  have:=AHo Array.size hR
  simp only [Array.size_append,vO,AEY,Bb,AEW] at this
  omega
 have hRt:R.take (i*2)=cls (L.take i):=by
  have e:=AHo Array.toList hR
  simp only [Array.toList_append,AEs] at e
  rw [e]
  refine List.take_left' ?_
  rw [Bb,AEW]
  omega
 have hb1:∀ W:World,W.heap=(w.alloc (.cells R.toArray 299)).heap->AB W w.heap.size R 299/\AB W vb (Af x) tv:=λW e=>⟨(AB.new w R _).heap e,(hv.alloc _).heap e⟩
 have hcpA:∀ (W:World),W.heap=(w.alloc (.cells R.toArray 299)).heap->∀ ty dc,(Builtin.copy_ #[230,230] ty #[.slice (some ⟨w.heap.size,i*2,none⟩) (L.length+1-i) dc,.slice (some ⟨vb,0,none⟩) 1 c]).run prog W=.ok (goInt 1) (W.setCells w.heap.size (i*2) (Af x)):=λW e ty dc=>
  Fh W _ _ ty 299 2 w.heap.size (i*2) (L.length+1-i) dc ⟨vb,0,none⟩ 1 c 1 (Af x) underlying230 Mw (by simp only [Nat.min_def];split <;> omega) rfl
   (λj v hj=>by rw [Addr.add_lit,ADs,(hb1 W e).2.cell];exact hj)
   (λj hj=>by rw [(hb1 W e).1.cell,ADZ (by simp [Af] at hj;omega)];rfl)
   (λj hj=>(hb1 W e).1.free _) (λv hv=>by unfold Af at hv;simp at hv;rcases hv with rfl | rfl <;> rfl)
 have hcpB:∀ (W:World),W.heap=((w.alloc (.cells R.toArray 299)).setCells w.heap.size (i*2) (Af x)).heap->∀ ty dc sc,(Builtin.copy_ #[230,230] ty #[.slice (some ⟨w.heap.size,(i+1)*2,none⟩) (L.length-i) dc,.slice (some ⟨g,i*2,none⟩) (L.length-i) sc]).run prog W=.ok (goInt ((L.length-i:Nat):Int)) (W.setCells w.heap.size ((i+1)*2) (cls (L.drop i))):=λW e ty dc sc=>by
  have B1:AB W w.heap.size _ 299:=(Az w.heap.size _ (Af x) (i*2) R (w.alloc (.cells R.toArray 299)) (AB.new w R _) (by simp [Af];omega)).heap e
  have B2:Own 299 W (.slice (some ⟨g,0,none⟩) L.length cap) L:=by
   refine Own.heap (ho.AA (BQ (B:=w.heap.size) (S:=[]) w.heap.size (Or.inl (ADW _)) (Af x) (i*2) _ ((Fr.refl w.heap.size [] w).alloc (ADW _) _)) ?_) e
   intro g2 e2
   simp [Value.ownBlock] at e2
   exact ⟨by omega,by simp⟩
  exact Fh W _ _ ty 299 2 w.heap.size ((i+1)*2) (L.length-i) dc ⟨g,i*2,none⟩ (L.length-i) sc (L.length-i) (cls (L.drop i)) underlying230 Mw (by simp) hdl
   (λj v hj=>by rw [Addr.add_lit];exact B2.cells i j v hj)
   (λj hj=>by rw [B1.cell,ADZ (by rw [Cg _ _ _ (by simp [Af];omega)];omega)];rfl)
   (λj hj=>B1.free _) (Ob _)
 have hE:Hid (∀ W1 W2:World,W1.heap=(w.alloc (.cells R.toArray 299)).heap->W2.heap=(W1.setCells w.heap.size (i*2) (Af x)).heap->W2.heap=((w.alloc (.cells R.toArray 299)).setCells w.heap.size (i*2) (Af x)).heap):=λW1 W2 e1 e2=>e2.trans (JI _ _ _ _ _ e1)
 have z1:¬ ((i:Int)=(L.length:Int)):=by omega
 have z2:(cap:Int)<(L.length:Int)+1:=by omega
 have z4:¬ (cap=i):=by omega
 have z5:¬ (G=i):=by omega
 have z51:¬ (G=i+1):=by omega
 have z6:(i:Int)<(L.length:Int):=by omega
 have z61:(i:Int)<=(cap:Int):=by omega
 have z7:IntKind.i64.wrap ((i:Int)+1)=(i:Int)+1:=by rw [IntKind.wrap_i64];omega
 have z8:(0:Int)<=(i:Int)+1:=by omega
 have z9:((i:Int)+1).toNat=i+1:=by omega
 have z10:(i:Int)<=(L.length:Int)+1:=by omega
 have z11:(i:Int)+1<=(L.length:Int)+1:=by omega
 have z12:(L.length:Int)<=3000:=by omega
 have z13:i<=L.length:=by omega
 have HK:Hid (L.length+1<=G/\G<=maxLen/\R.length=G*2/\R.take (i*2)=cls (L.take i)):=⟨hGn,hGm,hRl,hRt⟩
 generalize L.length=n at *
 clear hkk hik hold hR hG hRl hRt hv ho hb1 hdl hGn hGm hgl hi hcap hroom hs
 go_enter func322,ntmps322
 have hA:=hcpA (w.alloc (.cells R.toArray 299)).drew rfl
 have hB:Hid (∀ ty dc sc,_):=hcpB ((w.alloc (.cells R.toArray 299)).drew.setCells w.heap.size (i*2) (Af x)).drew (hE.out (w.alloc (.cells R.toArray 299)).drew _ rfl rfl)
 clear hcpA hcpB
 go_wp2_with (at_builtin;refine Lib.wpList_append_run _ rfl _ _ _ _ rfl _ _ rfl rfl _ _ (hrz _) ?_)
 go_region_law (refine JJ rfl _ _ 230 230 rfl (.slice (some ⟨w.heap.size,(i+1)*2,none⟩) (n-i) (G-(i+1))) (.slice (some ⟨g,i*2,none⟩) (n-i) (cap-i)) (by simp [Act.eval,Act.put]) (by simp [Act.eval,Act.put]) (hB.out 3 (G-(i+1)) (cap-i)) ?_)
 go_wp2
 go_ret
 exact ⟨G,R,rfl,HK.out.1,HK.out.2.1,HK.out.2.2.1,HK.out.2.2.2,Lz _ _ _ _ _ (Ut _ _ (Lz _ _ _ _ _ (Ut _ _ (nK _))))⟩
def ob (v:Value):List Nat:=v.ownBlock.toList
def BX:g∈ob v↔v.ownBlock=some g:=by
 unfold ob
 cases v.ownBlock with
 | none=>simp
 | some b=>simp [eq_comm]
def Hz (g n cap:Nat):ob (.slice (some ⟨g,0,none⟩) n cap)=[g]:=rfl
def WG (ho:Own 299 w v L) (hs:L.length<=2900) (hv:AB w vb (Af x) tv):
 Calls prog 322 #[v,.int .i64 (L.length:Nat),.slice (some ⟨vb,0,none⟩) 1 c] w λe w'=>
  ∃ v',e=.returned v'/\Own 299 w' v' (L++[x])/\Fr w.heap.size (ob v) w w'/\∀ g∈ob v',g∈ob v\/w.heap.size<=g:=by
 obtain ⟨i0,hi0,hz0,hzs,hzb⟩:=info_parts Tryz.Mu
 have hrun:∀ ty,∃ v' w',(Builtin.append_ #[230,230] ty #[v,.slice (some ⟨vb,0,none⟩) 1 c]).run prog w=.ok v' w'/\(Own 299 w' v' (L++[x])/\Fr w.heap.size (ob v) w w'/\∀ g∈ob v',g∈ob v\/w.heap.size<=g):=λty=>by
  obtain ⟨v',w',r,o',gr,bl⟩:=Li (P:=prog) w 230 ty 299 i0 _ 2 16 underlying230 hi0 hz0 hzs hzb rfl (by decide) (by decide) ho ⟨vb,0,none⟩ 1 c (Af x) rfl
   (λj u hj=>by rw [Addr.add_lit,ADs,hv.cell];exact hj) (λv hv=>by unfold Af at hv;simp at hv;rcases hv with rfl | rfl <;> rfl) (by omega)
  refine ⟨v',w',r,?_,(Fr.refl _ _ _).grown gr (ADW _) (λk hk=>Or.inr (BX.2 hk)),λg hg=>?_⟩
  ·unfold Own
   rw [ADa,Kn]
   exact o'
  ·rcases bl g (BX.1 hg) with h | h
   ·exact Or.inl (BX.2 h)
   ·exact Or.inr h
 obtain ⟨v',w',r,K⟩:=hrun 0
 have hty:∀ ty ty':TypeId,(Builtin.append_ #[230,230] ty #[v,.slice (some ⟨vb,0,none⟩) 1 c]).run prog w=(Builtin.append_ #[230,230] ty' #[v,.slice (some ⟨vb,0,none⟩) 1 c]).run prog w:=λ_ _=>rfl
 have hr:∀ ty,(Builtin.append_ #[230,230] ty #[v,.slice (some ⟨vb,0,none⟩) 1 c]).run prog w=.ok v' w':=λty=>(hty ty 0).trans r
 have KK:Hid (Own 299 w' v' (L++[x])/\Fr w.heap.size (ob v) w w'/\∀ g∈ob v',g∈ob v\/w.heap.size<=g):=K
 obtain ⟨p',n',c',hv'⟩:∃ p n c,v'=.slice p n c:=by
  obtain ⟨a,cap,e⟩:=K.1.shape
  exact ⟨a,_,cap,e⟩
 have z1:(L.length:Int)<=2900:=by omega
 rcases ho.cases with ⟨rfl,rfl⟩ | ⟨g,cap,cur,rfl,hb,h1,h2,h3,h4⟩
 ·clear hrun hty K ho hv hs r
  subst hv'
  go_enter func322,ntmps322
  go_wp2_with (at_builtin;refine Lib.wpList_append_run _ rfl _ _ _ _ rfl _ _ rfl rfl _ _ (hr _) ?_)
  go_ret
  exact ⟨_,rfl,KK.out⟩
 ·have z2:L.length<=cap:=h1
  generalize L.length=n at *
  clear hrun hty K ho hv hs r hb h1 h2 h3 h4
  subst hv'
  go_enter func322,ntmps322
  by_cases zc:cap=n
  ·go_wp2_with (at_builtin;refine Lib.wpList_append_run _ rfl _ _ _ _ rfl _ _ rfl rfl _ _ (hr _) ?_)
   go_ret
   exact ⟨_,rfl,KK.out⟩
  ·go_wp2_with (at_builtin;refine Lib.wpList_append_run _ rfl _ _ _ _ rfl _ _ rfl rfl _ _ (hr _) ?_)
   go_ret
   exact ⟨_,rfl,KK.out⟩
def Pc (L:List It) (x:It) (i:Nat) (hi:i<=L.length) {l:List Value} (h1:∀ k,k<i*2->l[k]?=(cls (L.take i))[k]?) (h2:∀ k,k<2->l[i*2+k]?=(Af x)[k]?) (h3:∀ k,k<(L.length-i)*2->l[(i+1)*2+k]?=(cls (L.drop i))[k]?):
 l.take ((L.take i++x::L.drop i).length*2)=cls (L.take i++x::L.drop i):=by
 have e1:(cls (L.take i)).length=i*2:=by rw [Bb,AEW];omega
 have ec:cls (L.take i++x::L.drop i)=cls (L.take i)++(Af x++cls (L.drop i)):=by rw [Kn];rfl
 have el:(L.take i++x::L.drop i).length=L.length+1:=by simp;omega
 rw [el]
 refine Us (by rw [Bb,el]) λj hj=>?_
 rw [ec,AFH,e1]
 by_cases c1:j<i*2
 ·rw [AHi c1,h1 j c1]
 ·rw [AHh c1,AFH]
  by_cases c2:j-i*2<(Af x).length
  ·rw [AHi c2,<- h2 (j-i*2) (by simpa [Af] using c2)]
   congr 1
   omega
  ·have c3:¬ j-i*2<2:=by simpa [Af] using c2
   rw [AHh c2,show (Af x).length=2 from rfl,<- h3 (j-i*2-2) (by omega)]
   congr 1
   omega
def My (ho:Own 299 w v L) (hs:L.length<=2900) (hv:AB w vb (Af x) tv) (hvg:vb∉ob v) (hi:i<=L.length):
 Calls prog 322 #[v,.int .i64 (i:Nat),.slice (some ⟨vb,0,none⟩) 1 c] w λe w'=>
  ∃ v',e=.returned v'/\Own 299 w' v' (L.take i++x::L.drop i)/\Fr w.heap.size (ob v) w w'/\∀ g∈ob v',g∈ob v\/w.heap.size<=g:=by
 by_cases hn:i=L.length
 ·subst hn
  rw [AEV,List.drop_length]
  exact WG ho hs hv
 have hlt:i<L.length:=by omega
 have hdl:(cls (L.drop i)).length=(L.length-i)*2:=by rw [Bb,AE5]
 rcases ho.cases with ⟨rfl,rfl⟩ | ⟨g,cap,cur,rfl,hb,h1,h2,h3,h4⟩
 ·simp at hlt
 by_cases room:L.length+1<=cap
 ·refine (To (tv:=tv) (c:=c) hb hlt room h2 h3 h4 hv (by simpa [Hz] using hvg)).mono ?_
  rintro e w' ⟨rfl,rfl⟩
  have f1:(i+1)*2+(cls (L.drop i)).length<=cur.length:=by rw [hdl];omega
  have b1:=Az g 299 (cls (L.drop i)) ((i+1)*2) cur w.drew hb f1
  have f2:i*2+(Af x).length<=(cur.take ((i+1)*2)++cls (L.drop i)++cur.drop ((i+1)*2+(cls (L.drop i)).length)).length:=by rw [Cg _ _ _ f1];simp [Af];omega
  have b2:=Az g 299 (Af x) (i*2) _ _ b1 f2
  refine ⟨_,rfl,?_,?_,λg' hg'=>Or.inl hg'⟩
  ·refine Hy b2 (by simp;omega) (by simp;omega) h2 (by rw [Cg _ _ _ f2,Cg _ _ _ f1];exact h3) (Pc L x i hi (λk hk=>?_) (λk hk=>?_) (λk hk=>?_))
   ·rw [Cf _ _ _ f2,AHh (by omega),Cf _ _ _ f1,AHh (by omega),<- Is,ADm,AHi hk,<- h4,ADm,AHi (by omega)]
   ·rw [Cf _ _ _ f2,AHi (by simp [Af];omega)]
    congr 1
    omega
   ·rw [Cf _ _ _ f2,AHh (by simp [Af];omega),Cf _ _ _ f1,AHi (by rw [hdl];omega)]
    congr 1
    omega
  ·rw [Hz]
   exact BQ g (Or.inr (by simp)) _ _ _ (BQ g (Or.inr (by simp)) _ _ _ (Fr.refl _ _ w).drew)
 ·refine (Tp (tv:=tv) (c:=c) ho hb.lt hlt h1 (by omega) (by omega) hv).mono ?_
  rintro e w' ⟨G,R,rfl,g1,g2,g3,g4,sm⟩
  have f1:i*2+(Af x).length<=R.length:=by simp [Af];omega
  have b1:=Az w.heap.size 299 (Af x) (i*2) R (w.alloc (.cells R.toArray 299)) (AB.new w R _) f1
  have f2:(i+1)*2+(cls (L.drop i)).length<=(R.take (i*2)++Af x++R.drop (i*2+(Af x).length)).length:=by rw [Cg _ _ _ f1,hdl];omega
  have b2:=(Az w.heap.size 299 (cls (L.drop i)) ((i+1)*2) _ _ b1 f2).heap sm.1
  refine ⟨_,rfl,?_,?_,λg' hg'=>?_⟩
  ·refine Hy b2 (by simp;omega) (by simp;omega) g2 (by rw [Cg _ _ _ f2,Cg _ _ _ f1];exact g3) (Pc L x i hi (λk hk=>?_) (λk hk=>?_) (λk hk=>?_))
   ·rw [Cf _ _ _ f2,AHh (by omega),Cf _ _ _ f1,AHh (by omega),<- g4,ADm,AHi hk]
   ·rw [Cf _ _ _ f2,AHh (by omega),Cf _ _ _ f1,AHi (by simp [Af];omega)]
    congr 1
    omega
   ·rw [Cf _ _ _ f2,AHi (by rw [hdl];omega)]
    congr 1
    omega
  ·have fr:Fr w.heap.size [] w (((w.alloc (.cells R.toArray 299)).setCells w.heap.size (i*2) (Af x)).setCells w.heap.size ((i+1)*2) (cls (L.drop i))):=BQ _ (Or.inl (ADW _)) _ _ _ (BQ _ (Or.inl (ADW _)) _ _ _ ((Fr.refl _ _ w).alloc (ADW _) _))
   exact Fr.mono ⟨sm.2.1.trans fr.os,sm.2.2.1.trans fr.tape,sm.2.2.2.trans fr.output,by rw [sm.1];exact fr.size,λk hk hs=>by rw [sm.1];exact fr.block k hk hs⟩ (ADW _) (by simp)
  ·rw [Hz] at hg'
   simp at hg'
   exact Or.inr (by omega)
def D8 {a:Act} 
 (hg:o.guard=none) (d x:Operand) (dT sT:TypeId) (hop:o.op=Op.call { callee:=Callee.builtin Builtin.append,args:=#[d,x],argTypes:=#[dT,sT] })
 (v u:Value) (hd:a.eval d=v) (hx:a.eval x=u) (hr:(Builtin.append_ #[dT,sT] o.type #[v,u]).run P w=.ok v' w') (hK:K (a.put o.dst v') w'):
 if Region.wanted o (yielded ops a.tmps)=true then Oper.wp P o a w K Q else E:=by
 have hw:Region.wanted o (yielded ops a.tmps)=true:=by simp [Region.wanted,hg]
 rw [AHi hw]
 unfold Oper.wp
 simp [execOp,hop,resolve,invoke,builtin,hd,hx,hr,Result.andThen]
 exact hK
def WI (hb:AB w g cur 299) (hl:L.length=i+1+m) (hroom:L.length<=cap) (hcap:cap<=maxLen) (hcl:cur.length=cap*2) (htk:cur.take (L.length*2)=cls L):
 Calls prog 261 #[.slice (some ⟨g,0,none⟩) (i+1+m) cap,.int .i64 i,.int .i64 ((i:Int)+1)] w λe w'=>
  e=.returned (.slice (some ⟨g,0,none⟩) (i+m) cap)/\w'=(w.drew.setCells g (i*2) (cls (L.drop (i+1)))).setCells g ((i+m)*2) [.int .i64 0,.int .i64 0]:=by
 obtain ⟨i0,hi0,hz0,hzs,hzb⟩:=info_parts Tryz.Mu
 have ho:Own 299 w (.slice (some ⟨g,0,none⟩) L.length cap) L:=Hy hb rfl (by omega) hcap hcl htk
 have hdl:(cls (L.drop (i+1))).length=m*2:=by rw [Bb,AE5];omega
 have hsome:∀ k,k<cap*2->(w.cell? ⟨g,k,none⟩).isSome=true:=λk hk=>by rw [hb.cell,ADZ (by omega)];rfl
 have hap:∀ ty A,(A=⟨g,(i+1)*2,none⟩\/m=0)->(Builtin.append_ #[230,230] ty #[.slice (some ⟨g,0,none⟩) i cap,.slice (some A) m (cap-(i+1))]).run prog w.drew=.ok (.slice (some ⟨g,0,none⟩) (i+m) cap) (w.drew.setCells g (i*2) (cls (L.drop (i+1)))):=λty A hA=>by
  have:=run_append_room_cells (P:=prog) w.drew 230 ty 299 i0 underlying230 hi0 g 0 i cap A m (cap-(i+1)) (cls (L.drop (i+1))) (by rw [hzs];exact hdl)
   (λj u hj=>by
    rcases hA with rfl | hA
    ·rw [Addr.add_lit]
     exact ho.cells (i+1) j u hj
    ·have:=(ADc.1 hj).1
     omega)
   (Ob _) (by omega) (λj hj=>by rw [hzs];exact hsome _ (by omega)) (λj hj=>hb.free _)
  rw [hzs,ADs] at this
  exact this
 obtain ⟨W1,hW1⟩:∃ W1,W1=w.drew.setCells g (i*2) (cls (L.drop (i+1))):=⟨_,rfl⟩
 have f1:i*2+(cls (L.drop (i+1))).length<=cur.length:=by rw [hdl];omega
 have b1:AB W1 g (cur.take (i*2)++cls (L.drop (i+1))++cur.drop (i*2+(cls (L.drop (i+1))).length)) 299:=by
  rw [hW1]
  exact Az g 299 (cls (L.drop (i+1))) (i*2) cur w.drew hb f1
 have hcr:∀ ty c,(Builtin.clear_ #[230] ty #[.slice (some ⟨g,(i+m)*2,none⟩) 1 c]).run prog W1=.ok (.tuple #[]) (W1.setCells g ((i+m)*2) [.int .i64 0,.int .i64 0]):=λty c=>
  QQ W1 230 299 ty underlying230 vN g ((i+m)*2) c
   (λj hj=>by rw [b1.cell,ADZ (by rw [Cg _ _ _ f1];omega)];rfl) (λj hj=>b1.free _)
 rw [<- hW1] at hap ⊢
 have z3:(cap:Int)<=9223372036854775807:=by unfold maxLen at hcap;omega
 have z4:(i:Int)+1+(m:Int)<=(cap:Int):=by omega
 have z5:¬ (cap=i+m):=by omega
 have z6:i+1+m-(i+m)=1:=by omega
 have z7:i+1+m-(i+1)=m:=by omega
 have z8:((i:Int)+1).toNat=i+1:=by omega
 have z9:((i:Int)+1+(m:Int)).toNat=i+1+m:=by omega
 have z10:(0:Int)<=(i:Int)+1:=by omega
 have z11:(0:Int)<=(i:Int)+1+(m:Int):=by omega
 have z12:(i:Int)+1<=(i:Int)+1+(m:Int):=by omega
 have z13:(i:Int)<=(cap:Int):=by omega
 have z14:((i:Int)+(m:Int)).toNat=i+m:=by omega
 have z15:(i:Int)+(m:Int)<=(i:Int)+1+(m:Int):=by omega
 have z16:¬ ((i:Int)=(i:Int)+1):=by omega
 have HA:Hid _:=hap
 have zm:cap=i+1->m=0:=λh=>by omega
 have HM:Hid _:=zm
 clear hb hcl htk ho hsome hdl b1 hW1 hcap hroom hap zm hl f1
 by_cases zc:cap=i+1
 ·obtain rfl:=HM.out zc
  subst zc
  have AP:Hid (∀ ty,(Builtin.append_ #[230,230] ty #[.slice (some ⟨g,0,none⟩) i (i+1),.slice (some ⟨g,0,none⟩) 0 0]).run prog w.drew=.ok (.slice (some ⟨g,0,none⟩) i (i+1)) W1):=λty=>by
   have:=HA.out ty ⟨g,0,none⟩ (Or.inr rfl)
   simpa using this
  have y1:(i:Int)<=(i:Int)+1:=by omega
  have y2:¬ (i+1=i):=by omega
  have y3:(i:Int)<=9223372036854775806:=by omega
  have y4:i+1-i=1:=by omega
  simp only [Nat.add_zero] at hcr ⊢
  clear z3 z4 z5 z6 z7 z9 z11 z12 z13 z14 z15 HA HM
  go_enter func261,ntmps261
  go_wp2_with fail
  go_region_law (refine D8 rfl (.tmp 22) (.tmp 25) 230 230 rfl (.slice (some ⟨g,0,none⟩) i (i+1)) (.slice (some ⟨g,0,none⟩) 0 0) (by simp [Act.eval,Act.put]) (by simp [Act.eval,Act.put]) (AP.out _) ?_)
  go_wp2
  go_ret
  exact ⟨rfl,rfl⟩
 ·have ap:∀ ty,(Builtin.append_ #[230,230] ty #[.slice (some ⟨g,0,none⟩) i cap,.slice (some ⟨g,(i+1)*2,none⟩) m (cap-(i+1))]).run prog w.drew=.ok (.slice (some ⟨g,0,none⟩) (i+m) cap) W1:=λty=>HA.out ty _ (Or.inl rfl)
  have AP:Hid _:=ap
  clear ap
  go_enter func261,ntmps261
  go_wp2_with fail
  go_region_law (refine D8 rfl (.tmp 22) (.tmp 25) 230 230 rfl (.slice (some ⟨g,0,none⟩) i cap) (.slice (some ⟨g,(i+1)*2,none⟩) m (cap-(i+1))) (by simp [Act.eval,Act.put]) (by simp [Act.eval,Act.put]) (AP.out _) ?_)
  go_wp2
  go_ret
  exact ⟨rfl,rfl⟩
def WJ (ho:Own 299 w v L) (hi:i<L.length):
 Calls prog 261 #[v,.int .i64 (i:Nat),.int .i64 ((i:Int)+1)] w λe w'=>
  ∃ v',e=.returned v'/\Own 299 w' v' (L.take i++L.drop (i+1))/\Fr w.heap.size (ob v) w w'/\ob v'=ob v:=by
 rcases ho.cases with ⟨rfl,rfl⟩ | ⟨g,cap,cur,rfl,hb,h1,h2,h3,h4⟩
 ·simp at hi
 obtain ⟨m,hl⟩:∃ m,L.length=i+1+m:=⟨L.length-(i+1),by omega⟩
 have key:=WI hb hl h1 h2 h3 h4
 rw [<- hl] at key
 refine key.mono ?_
 rintro e w' ⟨rfl,rfl⟩
 have hdl:(cls (L.drop (i+1))).length=m*2:=by rw [Bb,AE5];omega
 have f1:i*2+(cls (L.drop (i+1))).length<=cur.length:=by rw [hdl];omega
 have b1:=Az g 299 (cls (L.drop (i+1))) (i*2) cur w.drew hb f1
 have f2:(i+m)*2+([.int .i64 0,.int .i64 0]:List Value).length<=(cur.take (i*2)++cls (L.drop (i+1))++cur.drop (i*2+(cls (L.drop (i+1))).length)).length:=by rw [Cg _ _ _ f1];simp;omega
 have b2:=Az g 299 [.int .i64 0,.int .i64 0] ((i+m)*2) _ _ b1 f2
 have hle:(L.take i++L.drop (i+1)).length=i+m:=by simp;omega
 have e1:(cls (L.take i)).length=i*2:=by rw [Bb,AEW];omega
 refine ⟨_,rfl,Hy b2 hle.symm (by omega) h2 (by rw [Cg _ _ _ f2,Cg _ _ _ f1];exact h3) ?_,?_,rfl⟩
 ·rw [hle]
  refine Us (by rw [Bb,hle]) λj hj=>?_
  rw [Cf _ _ _ f2,AHh (by omega),Cf _ _ _ f1,Kn,AFH,e1]
  by_cases c1:j<i*2
  ·rw [AHh (by omega),AHi c1,<- Is,ADm,AHi c1,<- h4,ADm,AHi (by omega)]
  ·rw [AHi (by rw [hdl];omega),AHh c1]
 ·rw [Hz]
  exact BQ g (Or.inr (by simp)) _ _ _ (BQ g (Or.inr (by simp)) _ _ _ (Fr.refl _ _ w).drew)
def cp (a b:Int):Int:=if a<b then -1 else if b<a then 1 else 0
def Yn (a b:Int) (w:World):Calls prog 317 #[.int .i64 a,.int .i64 b] w λe w'=>e=.returned (.int .i64 (cp a b))/\w'=w:=by
 unfold cp
 by_cases c1:a<b
 ·rw [AHi c1]
  go_enter func317,ntmps317
  go_wp2
  all_goals (go_ret;exact ⟨rfl,rfl⟩)
 ·rw [AHh c1]
  by_cases c2:b<a
  ·rw [AHi c2]
   go_enter func317,ntmps317
   go_wp2
   all_goals (go_ret;exact ⟨rfl,rfl⟩)
  ·rw [AHh c2]
   go_enter func317,ntmps317
   go_wp2
   all_goals (go_ret;exact ⟨rfl,rfl⟩)
def nL (a b:Int) (w:World):Calls prog 318 #[.int .i64 a,.int .i64 b] w λe w'=>e=.returned (.int .i64 (cp a b))/\w'=w:=by
 unfold cp
 by_cases c1:a<b
 ·rw [AHi c1]
  go_enter func318,ntmps318
  go_wp2
  all_goals (go_ret;exact ⟨rfl,rfl⟩)
 ·rw [AHh c1]
  by_cases c2:b<a
  ·rw [AHi c2]
   go_enter func318,ntmps318
   go_wp2
   all_goals (go_ret;exact ⟨rfl,rfl⟩)
  ·rw [AHh c2]
   go_enter func318,ntmps318
   go_wp2
   all_goals (go_ret;exact ⟨rfl,rfl⟩)
def vP (a b:Int) (w:World) (g off c:Nat) (h0:w.cell? ⟨g,off,none⟩=some (.int .i64 a)) (h1:w.cell? ⟨g,off+1,none⟩=some (.int .i64 b)):
 Calls prog 316 #[.slice (some ⟨g,off,none⟩) 2 c] w λe w'=>e=.returned (.int .i64 (if a=0 then b else a))/\w'=w:=by
 by_cases c1:a=0
 ·rw [AHi c1]
  subst c1
  by_cases c2:b=0
  ·subst c2
   go_enter func316,ntmps316
   go_wp2
   go_loopw [8] (λi wr=>wr=w/\∃ k:Nat,(k:Int)<=2/\i=.int .i64 k) (λi _=>2-(intOf i).toNat)
   case atStart=>exact ⟨rfl,0,by omega,rfl⟩
   case round=>
    obtain ⟨rfl,k,hk,rfl⟩:=hrel
    by_cases h:(k:Int)<2
    ·have hc:wr.cell? ⟨g,off+k,none⟩=some (.int .i64 0):=by
      rcases (by omega:k=0\/k=1) with rfl | rfl
      ·exact h0
      ·exact h1
     clear h0 h1
     go_wp2
     go_roundw
     case rel=>exact ⟨trivial,k+1,by omega,by go_num⟩
     case measure=>simp [intOf];omega
    ·go_wp2
     go_ret
     exact ⟨rfl,rfl⟩
  ·go_enter func316,ntmps316
   go_wp2
   go_loopw [8] (λi wr=>wr=w/\∃ k:Nat,(k:Int)<=1/\i=.int .i64 k) (λi _=>2-(intOf i).toNat)
   case atStart=>exact ⟨rfl,0,by omega,rfl⟩
   case round=>
    obtain ⟨rfl,k,hk,rfl⟩:=hrel
    have hlt:(k:Int)<2:=by omega
    rcases (by omega:k=0\/k=1) with rfl | rfl
    ·go_wp2
     go_roundw
     case rel=>exact ⟨trivial,1,by omega,by go_num⟩
     case measure=>simp [intOf]
    ·go_wp2
     go_ret
     exact ⟨rfl,rfl⟩
 ·rw [AHh c1]
  go_enter func316,ntmps316
  go_wp2
  go_loopw [8] (λi wr=>wr=w/\i=.int .i64 0) (λi _=>2-(intOf i).toNat)
  case atStart=>exact ⟨rfl,rfl⟩
  case round=>
   obtain ⟨rfl,rfl⟩:=hrel
   go_wp2
   go_ret
   exact ⟨rfl,rfl⟩
def AB9 (x y:It):(if cp x.1 y.1=0 then cp x.2 y.2 else cp x.1 y.1)=cm x y:=by
 unfold cp cm
 by_cases c1:x.1<y.1
 ·simp [c1]
 ·by_cases c2:y.1<x.1
  ·simp [c1,c2]
  ·simp [c1,c2]
def nM (x y:It) (w:World):
 Calls prog 315 #[.agg #[.int .i64 x.2,.int .i64 x.1],.agg #[.int .i64 y.2,.int .i64 y.1]] w λe w'=>e=.returned (.int .i64 (cm x y))/\Below w.heap.size w w':=by
 rw [<- AB9]
 have C1:Hid (∀ w,_):=λw=>Yn x.1 y.1 w
 have C2:Hid (∀ w,_):=λw=>nL x.2 y.2 w
 generalize cp x.1 y.1=p at *
 generalize cp x.2 y.2=q at *
 have C3:Hid (∀ (w:World) (g off c:Nat),_):=λw g off c=>vP p q w g off c
 obtain ⟨a,b⟩:=x
 obtain ⟨c,d⟩:=y
 dsimp only at *
 obtain ⟨r,hr⟩:∃ r,r=if p=0 then q else p:=⟨_,rfl⟩
 rw [<- hr] at C3 ⊢
 clear hr
 have W0:Hid (Below w.heap.size w ((w.alloc (.cells #[.int .i64 b,.int .i64 a] 299)).alloc (.cells #[.int .i64 d,.int .i64 c] 299))):=((Below.refl _ _).alloc (ADW _) _).alloc (by simp) _
 go_enter func315,ntmps315
 go_wp2
 have W1:=W0.out
 have k1:((w.alloc (.cells #[.int .i64 b,.int .i64 a] 299)).alloc (.cells #[.int .i64 d,.int .i64 c] 299)).cell? ⟨w.heap.size,0,none⟩=some (.int .i64 b):=((AB.new w [.int .i64 b,.int .i64 a] 299).alloc _).cell 0
 have k2:((w.alloc (.cells #[.int .i64 b,.int .i64 a] 299)).alloc (.cells #[.int .i64 d,.int .i64 c] 299)).cell? ⟨w.heap.size,1,none⟩=some (.int .i64 a):=((AB.new w [.int .i64 b,.int .i64 a] 299).alloc _).cell 1
 have k3:((w.alloc (.cells #[.int .i64 b,.int .i64 a] 299)).alloc (.cells #[.int .i64 d,.int .i64 c] 299)).cell? ⟨w.heap.size+1,0,none⟩=some (.int .i64 d):=by simp
 have k4:((w.alloc (.cells #[.int .i64 b,.int .i64 a] 299)).alloc (.cells #[.int .i64 d,.int .i64 c] 299)).cell? ⟨w.heap.size+1,1,none⟩=some (.int .i64 c):=by simp
 clear W0
 generalize (w.alloc (.cells #[.int .i64 b,.int .i64 a] 299)).alloc (.cells #[.int .i64 d,.int .i64 c] 299)=u at *
 have BU:Hid (Below w.heap.size w u):=W1
 clear W1
 go_region_held3 (λw'=>w'.cell? ⟨w.heap.size,0,none⟩=some (.int .i64 b)/\w'.cell? ⟨w.heap.size,1,none⟩=some (.int .i64 a)/\w'.cell? ⟨w.heap.size+1,0,none⟩=some (.int .i64 d)/\w'.cell? ⟨w.heap.size+1,1,none⟩=some (.int .i64 c)) (go_keep) (first | (go_at_call 317;refine (C1.out _).mono ?_;rintro e v1 ⟨rfl,rfl⟩) | (go_at_call 318;refine (C2.out _).mono ?_;rintro e v1 ⟨rfl,rfl⟩) | (go_at_call 316;refine (C3.out _ _ _ _ ?_ ?_).mono ?_;go_keep;go_keep;rintro e v1 ⟨rfl,rfl⟩))
 have B2:Hid (Below w.heap.size w (u.alloc (.cells #[.int .i64 p,.int .i64 q] 3)).drew):=(BU.out.alloc BU.out.size _).drew
 go_wp2
 go_ret
 exact ⟨rfl,B2.out⟩
def ABa (hi:i<=L.length) (h1:∀ t y,t<i->L[t]?=some y->lt y x) (h2:∀ t y,i<=t->L[t]?=some y->¬ lt y x):at_ L x=i:=by
 unfold at_
 have e:L=L.take i++L.drop i:=(AFC i L).symm
 have f1:(L.take i).filter (λy=>decide (lt y x))=L.take i:=AEL.2 λy hy=>by
  obtain ⟨t,ht,e⟩:=AEe.1 hy
  have ht2:t<i:=by simp at ht;omega
  simpa using h1 t y ht2 (by rw [<- e,List.getElem_take];exact ADZ _)
 have f2:(L.drop i).filter (λy=>decide (lt y x))=[]:=AEI.2 λy hy=>by
  obtain ⟨t,ht,e⟩:=AEe.1 hy
  simpa using h2 (i+t) y (by omega) (by rw [<- e,List.getElem_drop];exact ADZ _)
 rw [e,AEQ,f1,f2]
 simp
 omega
def vQ (h:BV L) {a:Nat} {y z:It} (hab:a<=b) (ha:L[a]?=some y) (hb:L[b]?=some z):y=z\/lt y z:=by
 by_cases e:a=b
 ·subst e
  rw [ha] at hb
  exact Or.inl (by simpa using hb)
 ·obtain ⟨h1,e1⟩:=ADc.1 ha
  obtain ⟨h2,e2⟩:=ADc.1 hb
  have:=List.pairwise_iff_getElem.1 h a b h1 h2 (by omega)
  rw [e1,e2] at this
  exact Or.inr this
def M0 (ho:Own 299 w (.slice a n cap) L) (hi:i<L.length):∃ g y,a=some ⟨g,0,none⟩/\g<w.heap.size/\L[i]?=some y/\w.cell? ⟨g,i*2,none⟩=some (.int .i64 y.2)/\w.cell? ⟨g,i*2+1,none⟩=some (.int .i64 y.1):=by
 obtain ⟨g,e,h⟩:=ho.cell hi
 have hy:=ADZ hi
 obtain ⟨h1,h2⟩:=h _ hy
 exact ⟨g,L[i],e,World.block_lt_of_cell? w _ h1,hy,h1,h2⟩
def nN (x:It) (ho:Own 299 w (.slice a L.length cap) L) (hs:BV L) (hl:L.length<=2900):
 Calls prog 314 #[.slice a L.length cap,.agg #[.int .i64 x.2,.int .i64 x.1],.func (.func 315) #[] #[]] w λe w'=>(∃ b,e=.returned (.tuple #[.int .i64 (at_ L x:Nat),.bool b]))/\Below w.heap.size w w':=by
 obtain ⟨r,hr⟩:∃ r,r=at_ L x:=⟨_,rfl⟩
 rw [<- hr]
 have AT:Hid (∀ i,i<=L.length->(∀ t y,t<i->L[t]?=some y->lt y x)->(∀ t y,i<=t->L[t]?=some y->¬ lt y x)->r=i):=λi h0 h1 h2=>hr.trans (ABa h0 h1 h2)
 have MO:Hid (∀ {p q:Nat} {y z:It},p<=q->L[p]?=some y->L[q]?=some z->y=z\/lt y z):=λh1 h2 h3=>vQ hs h1 h2 h3
 have CE:Hid (∀ (wr:World) (i:Nat),Below (w.heap.size+1) (w.alloc (.cells #[.int .i64 x.2,.int .i64 x.1] 299)) wr->i<L.length->∃ g y,a=some ⟨g,0,none⟩/\L[i]?=some y/\wr.cell? ⟨g,i*2,none⟩=some (.int .i64 y.2)/\wr.cell? ⟨g,i*2+1,none⟩=some (.int .i64 y.1)/\wr.cell? ⟨w.heap.size,0,none⟩=some (.int .i64 x.2)/\wr.cell? ⟨w.heap.size,1,none⟩=some (.int .i64 x.1)):=λwr i hB hi=>by
  obtain ⟨g,y,e,hg,hy,h1,h2⟩:=M0 ho hi
  have hb:=(AB.new w [.int .i64 x.2,.int .i64 x.1] 299)
  have ha:∀ k,(w.alloc (.cells #[.int .i64 x.2,.int .i64 x.1] 299)).cell? ⟨g,k,none⟩=w.cell? ⟨g,k,none⟩:=λk=>World.cell?_of_block (Below.heap_alloc _ _ _ hg)
  refine ⟨g,y,e,hy,?_,?_,?_,?_⟩
  ·rw [hB.cell (p:=⟨g,i*2,none⟩) (by show g<_;omega),ha];exact h1
  ·rw [hB.cell (p:=⟨g,i*2+1,none⟩) (by show g<_;omega),ha];exact h2
  ·rw [hB.cell (p:=⟨w.heap.size,0,none⟩) (by show w.heap.size<_;omega)];exact hb.cell 0
  ·rw [hB.cell (p:=⟨w.heap.size,1,none⟩) (by show w.heap.size<_;omega)];exact hb.cell 1
 have FIN:Hid (∀ wr,Below (w.heap.size+1) (w.alloc (.cells #[.int .i64 x.2,.int .i64 x.1] 299)) wr->Below w.heap.size w wr):=λwr hB=>((Below.refl w.heap.size w).alloc (ADW _) _).trans (hB.mono (by omega))
 have CC:Hid (∀ (y:It) (w:World),_):=λy w=>nM y x w
 obtain ⟨n,hn⟩:∃ n,L.length=n:=⟨_,rfl⟩
 rw [hn] at AT CE ⊢
 have z1:(n:Int)<=2900:=by omega
 have LL:Hid (L.length=n):=hn
 clear hr hs ho hl hn
 go_enter func314,ntmps314
 go_wp2
 go_loopw [9,10] (λs9 bT wr=>∃ lo hi:Nat,s9=.int .i64 lo/\bT=.int .i64 hi/\(lo:Int)<=hi/\(hi:Int)<=n/\Hid (Below (w.heap.size+1) (w.alloc (.cells #[.int .i64 x.2,.int .i64 x.1] 299)) wr)/\Hid ((∀ t y,t<lo->L[t]?=some y->lt y x)/\(∀ t y,hi<=t->L[t]?=some y->¬ lt y x))) (λs9 bT _=>(intOf bT).toNat-(intOf s9).toNat)
 case atStart=>exact ⟨0,n,rfl,rfl,by omega,AFJ _,Below.mono (Below.refl _ _) (ADW _),⟨λt y h=>absurd h (Nat.not_lt_zero _),λt y h1 h2=>by have:=(ADc.1 h2).1;have:=LL.out;omega⟩⟩
 case round=>
  obtain ⟨lo,hi,rfl,rfl,h1,h2,B,I⟩:=hrel
  have SZ:w.heap.size+1<=wr.heap.size:=by have:=B.out.size;simpa using this
  have KP:Hid (∀ W v1:World,Below W.heap.size W v1->Sm W wr->Below (w.heap.size+1) (w.alloc (.cells #[.int .i64 x.2,.int .i64 x.1] 299)) v1):=λW v1 hb hs=>B.out.trans (hs.from (hb.mono (by rw [hs.1];exact SZ)))
  have KC:Hid (∀ (W v1:World) (p:Addr) (u:Value),Below W.heap.size W v1->Sm W wr->wr.cell? p=some u->v1.cell? p=some u):=λW v1 p u hb hs hp=>by
   have:=World.block_lt_of_cell? wr _ hp
   rw [hb.cell (by rw [hs.1];exact this),World.cell?_of_block (w:=wr) (by rw [hs.1])]
   exact hp
  clear SZ
  by_cases hlt:(lo:Int)<hi
  ·have hm:(((lo:Int)+hi) / 2)=(((lo+hi) / 2:Nat):Int):=by omega
   obtain ⟨g,y,rfl,hy,k1,k2,k3,k4⟩:=CE.out wr ((lo+hi) / 2) B.out (by omega)
   have hmn:(((lo+hi) / 2:Nat):Int)<n:=by omega
   have hml:(lo:Int)<=(((lo+hi) / 2:Nat):Int):=by omega
   have hmh:(((lo+hi) / 2:Nat):Int)<hi:=by omega
   have HY:Hid (L[(lo+hi) / 2]?=some y):=hy
   clear hy
   obtain ⟨m,em⟩:∃ m,m=(lo+hi) / 2:=⟨_,rfl⟩
   rw [<- em] at HY k1 k2 hmn hml hmh hm
   clear em
   have C:=CC.out y
   by_cases hc:cm y x<0
   ·have C1:Hid (∀ w,_):=λw=>C w
    have I2:Hid ((∀ t y,t<m+1->L[t]?=some y->lt y x)/\(∀ t y,hi<=t->L[t]?=some y->¬ lt y x)):=⟨λt z ht hz=>by
     rcases MO.out (by omega:t<=m) hz HY.out with e | e
     ·rw [e];exact (Qe y x).1 hc
     ·exact lt_trans e ((Qe y x).1 hc),I.out.2⟩
    generalize cm y x=cr at *
    clear C I
    go_wp2_with fail
    go_region_held3 (λw'=>w'.cell? ⟨g,m*2,none⟩=some (.int .i64 y.2)/\w'.cell? ⟨g,m*2+1,none⟩=some (.int .i64 y.1)/\w'.cell? ⟨w.heap.size,0,none⟩=some (.int .i64 x.2)/\w'.cell? ⟨w.heap.size,1,none⟩=some (.int .i64 x.1)) (go_keep) (first | (go_at_call 315;refine (C1.out _).mono ?_;rintro e v1 ⟨rfl,b1⟩;have j1:=KC.out _ v1 _ _ b1 ⟨rfl,rfl,rfl,rfl⟩ k1;have j2:=KC.out _ v1 _ _ b1 ⟨rfl,rfl,rfl,rfl⟩ k2;have j3:=KC.out _ v1 _ _ b1 ⟨rfl,rfl,rfl,rfl⟩ k3;have j4:=KC.out _ v1 _ _ b1 ⟨rfl,rfl,rfl,rfl⟩ k4;have J5:=KP.out _ v1 b1 ⟨rfl,rfl,rfl,rfl⟩))
    go_wp2
    go_roundw
    case rel=>exact ⟨m+1,hi,by go_num,rfl,by omega,h2,J5,I2.out⟩
    case measure=>simp [intOf];omega
   ·have C1:Hid (∀ w,_):=λw=>C w
    have I2:Hid ((∀ t y,t<lo->L[t]?=some y->lt y x)/\(∀ t y,m<=t->L[t]?=some y->¬ lt y x)):=⟨I.out.1,λt z ht hz hlz=>by
     rcases MO.out ht HY.out hz with e | e
     ·rw [e] at hc;exact hc ((Qe z x).2 hlz)
     ·exact hc ((Qe y x).2 (lt_trans e hlz))⟩
    generalize cm y x=cr at *
    clear C I
    go_wp2_with fail
    go_region_held3 (λw'=>w'.cell? ⟨g,m*2,none⟩=some (.int .i64 y.2)/\w'.cell? ⟨g,m*2+1,none⟩=some (.int .i64 y.1)/\w'.cell? ⟨w.heap.size,0,none⟩=some (.int .i64 x.2)/\w'.cell? ⟨w.heap.size,1,none⟩=some (.int .i64 x.1)) (go_keep) (first | (go_at_call 315;refine (C1.out _).mono ?_;rintro e v1 ⟨rfl,b1⟩;have j1:=KC.out _ v1 _ _ b1 ⟨rfl,rfl,rfl,rfl⟩ k1;have j2:=KC.out _ v1 _ _ b1 ⟨rfl,rfl,rfl,rfl⟩ k2;have j3:=KC.out _ v1 _ _ b1 ⟨rfl,rfl,rfl,rfl⟩ k3;have j4:=KC.out _ v1 _ _ b1 ⟨rfl,rfl,rfl,rfl⟩ k4;have J5:=KP.out _ v1 b1 ⟨rfl,rfl,rfl,rfl⟩))
    go_wp2
    go_roundw
    case rel=>exact ⟨lo,m,rfl,rfl,by omega,by omega,J5,I2.out⟩
    case measure=>simp [intOf];omega
  ·obtain rfl:hi=lo:=by omega
   obtain rfl:=AT.out hi (by omega) I.out.1 I.out.2
   clear I h1 hlt
   by_cases hn:(r:Int)<n
   ·have hd:decide ((r:Int)<(n:Int))=true:=AHj hn
    obtain ⟨g,y,rfl,hy,k1,k2,k3,k4⟩:=CE.out wr r B.out (by omega)
    have C1:Hid (∀ w,_):=λw=>CC.out y w
    generalize cm y x=cr at *
    go_wp2_with fail
    go_region_held3 (λw'=>w'.cell? ⟨g,r*2,none⟩=some (.int .i64 y.2)/\w'.cell? ⟨g,r*2+1,none⟩=some (.int .i64 y.1)/\w'.cell? ⟨w.heap.size,0,none⟩=some (.int .i64 x.2)/\w'.cell? ⟨w.heap.size,1,none⟩=some (.int .i64 x.1)) (go_keep) (first | (go_at_call 315;refine (C1.out _).mono ?_;rintro e v1 ⟨rfl,b1⟩;have j1:=KC.out _ v1 _ _ b1 ⟨rfl,rfl,rfl,rfl⟩ k1;have j2:=KC.out _ v1 _ _ b1 ⟨rfl,rfl,rfl,rfl⟩ k2;have j3:=KC.out _ v1 _ _ b1 ⟨rfl,rfl,rfl,rfl⟩ k3;have j4:=KC.out _ v1 _ _ b1 ⟨rfl,rfl,rfl,rfl⟩ k4;have J5:=KP.out _ v1 b1 ⟨rfl,rfl,rfl,rfl⟩))
    go_wp2
    go_ret2
    exact ⟨⟨_,rfl⟩,FIN.out _ J5⟩
   ·obtain rfl:r=n:=by omega
    clear hn
    have BB:Hid (Below w.heap.size w wr):=FIN.out wr B.out
    go_wp2_with fail
    go_quiet (fail)
    go_wp2
    go_ret2
    exact ⟨⟨_,rfl⟩,⟨BB.out.os,BB.out.tape,BB.out.output,BB.out.size,BB.out.block⟩⟩
def GL:Maps.Keyed prog 3:=Maps.int_keyed underlying3
def MQ (te:TypeId) (w:World) (b m:Nat) (f:Int->Option Int):Prop:=
 ∃ D:DataW Unit,w.ownsMap prog 3 (plainElem prog te) b m D/\Maps.size D=m/\∀ id,(Lit.int .i64 id).wf=true->Maps.has D (.int .i64 id)=(f id).isSome/\D.atKey (.int .i64 id) (.lit (.int .i64 0))=.lit (.int .i64 ((f id).getD 0))
def MQ.lt {te:TypeId} {w:World} {b m:Nat} {f:Int->Option Int} (h:MQ te w b m f):b<w.heap.size:=by obtain ⟨D,o,_⟩:=h;exact o.lt
def MQ.same (h:MQ te w b m f) (e:w'.heap[b]?=w.heap[b]?):MQ te w' b m f:=by
 obtain ⟨D,⟨es,clock,hb,rest⟩,k⟩:=h
 exact ⟨D,⟨es,clock,e.trans hb,rest⟩,k⟩
def MQ.AA (h:MQ te w b m f) (k:Fr B S w w') (hb:b<B) (hs:b∉S):MQ te w' b m f:=h.same (k.block b hb hs)
def MQ.AC (h:MQ te w b m f) (k:AB w g cs t):b≠g:=by
 intro e
 subst e
 obtain ⟨D,⟨es,clock,hb,_⟩,_⟩:=h
 have:=(show w.heap[b]?=_ from k).symm.trans hb
 cases this
def MQ.congr {g:Int->Option Int} (h:MQ te w b m f) (e:∀ i,g i=f i):MQ te w b m g:=by
 have:g=f:=funext e
 rw [this]
 exact h
def Rh {D:DataW Unit} (h:w.ownsMap prog 3 (plainElem prog te) b n D):w.ownsMap prog 3 (plainElem prog te) b (Maps.size D) D:=by
 obtain ⟨es,clock,hb,F,_,rfl⟩:=h
 refine ⟨es,clock,hb,F,?_,rfl⟩
 rw [Maps.size_eq,length_read]
 exact ADW _
def Jj (w:World):MQ te (w.alloc (.map #[] 0)) w.heap.size 0 (λ_=>none):=
 ⟨_,World.ownsMap_made w prog 3 _,rfl,λ_ _=>⟨rfl,rfl⟩⟩
section
variable {te tm:TypeId}
def DH (he:prog.underlying te=some (.int .i64)) (hm:prog.underlying tm=some (.map 3 te)) (hz:∀ w,(zeroValue te).run prog w=.ok (.int .i64 0) w) (h:MQ te w b m f) (hw:(Lit.int .i64 id).wf=true):
 (Instr.lookup tm (.map (some b)) (.int .i64 id) true).run prog w=.ok (.tuple #[.int .i64 ((f id).getD 0),.bool (f id).isSome]) w:=by
 obtain ⟨D,o,_,k⟩:=h
 obtain ⟨v,ps,hrun,hv⟩:=o.look_ok GL hm (hz w) (plainElem_int he (by decide)) (Maps.keyOf_int_mk underlying3 hw)
 obtain ⟨k1,k2⟩:=k id hw
 rw [k2] at hv
 obtain ⟨c,rfl,hc,_⟩:=plainElem_int_inv he hv
 have e:=AHo Prod.fst hc
 simp only [DataW.lit.injEq,Lit.int.injEq,true_and] at e
 rw [hrun,k1,e]
def Od (hm:prog.underlying tm=some (.map 3 te)) (hz:∀ w,(zeroValue te).run prog w=.ok (.int .i64 0) w) (w:World) (hw:(Lit.int .i64 id).wf=true):
 (Instr.lookup tm (.map none) (.int .i64 id) true).run prog w=.ok (.tuple #[.int .i64 0,.bool false]) w:=by
 have:=Maps.look_nil (w:=w) true GL hm (hz w) (Maps.keyOf_int_mk underlying3 hw)
 simpa using this
def GM (he:prog.underlying te=some (.int .i64)) (hm:prog.underlying tm=some (.map 3 te)) (h:MQ te w b m f) (hn:m<=100000) (hw:(Lit.int .i64 id).wf=true) {c:Int} (hc:(Lit.int .i64 c).wf=true):
 ∃ w',(Instr.mapUpdate tm (.map (some b)) (.int .i64 id) (.int .i64 c)).run prog w=.ok () w'/\MQ te w' b (if (f id).isSome=true then m else m+1) (λj=>if j=id then some c else f j)/\Fr w.heap.size [b] w w':=by
 obtain ⟨D,o,s,k⟩:=h
 obtain ⟨w',hrun,r1,r2⟩:=o.store GL hm (by unfold maxLen;omega) (Maps.keyOf_int_mk underlying3 hw) (plainElem_int he hc)
 have sz:Maps.size (D.put (.int .i64 id) (.lit (.int .i64 c)))=if (f id).isSome=true then m else m+1:=by
  rw [Maps.size_put (o.tidy GL),(k id hw).1,s]
 refine ⟨w',hrun,⟨_,sz ▸ Rh r1,sz,λj hj=>?_⟩,?_⟩
 ·dsimp only
  by_cases e:j=id
  ·subst e
   rw [AHi rfl]
   have kl:WideAt.IsKeyLit (Lit.int .i64 j):=trivial
   exact ⟨Maps.has_put_same o.isMap kl _,Maps.atKey_put_same o.isMap kl _ _⟩
  ·rw [AHh e]
   have ne:(Lit.int .i64 j)≠Lit.int .i64 id:=λq=>e (by cases q;rfl)
   rw [Maps.has_put_other ne,Maps.atKey_put_other ne]
   exact k j hj
 ·have g:=r2.grown
  exact ⟨g.os,g.tape,g.output,g.size,λk hk hs=>g.block k hk (λe=>hs (by cases e;simp))⟩
def Jk (hm:prog.underlying tm=some (.map 3 te)) (h:MQ te w b m f) (hw:(Lit.int .i64 id).wf=true) (hi:(f id).isSome=true) (ty:TypeId):
 ∃ w',(Builtin.delete_ #[tm,3] ty #[.map (some b),.int .i64 id]).run prog w=.ok (.tuple #[]) w'/\MQ te w' b (m-1) (λj=>if j=id then none else f j)/\Fr w.heap.size [b] w w':=by
 obtain ⟨D,o,s,k⟩:=h
 obtain ⟨w',hrun,r1,r2⟩:=o.drop GL hm (Maps.keyOf_int_mk underlying3 hw) ty
 have sz:Maps.size (D.del (.int .i64 id))=m-1:=by
  have:=Maps.size_del (k:=.int .i64 id) (o.tidy GL)
  rw [(k id hw).1,hi,s] at this
  simp at this
  omega
 refine ⟨w',hrun,⟨_,sz ▸ Rh r1,sz,λj hj=>?_⟩,?_⟩
 ·dsimp only
  by_cases e:j=id
  ·subst e
   rw [AHi rfl]
   exact ⟨Maps.has_del_same,Maps.atKey_del_same _⟩
  ·rw [AHh e]
   have ne:(Lit.int .i64 j)≠Lit.int .i64 id:=λq=>e (by cases q;rfl)
   rw [Maps.has_del_other ne,Maps.atKey_del_other ne]
   exact k j hj
 ·have g:=r2.grown
  exact ⟨g.os,g.tape,g.output,g.size,λk hk hs=>g.block k hk (λe=>hs (by cases e;simp))⟩
end
def AO (d:Int):Prop:=0<=d/\d<=1152921504606846976
instance (d:Int):Decidable (AO d):=by unfold AO;infer_instance
def EZ (d:Int) (w:World):Calls prog 106 #[.int .i64 d] w λe w'=>e=.returned (.bool (decide (AO d)))/\w'=w:=by
 by_cases c1:0<=d
 ·by_cases c2:d<=1152921504606846976
  ·rw [AHj (show AO d from ⟨c1,c2⟩)]
   go_enter func106,ntmps106
   go_wp2
   go_ret
   exact ⟨rfl,rfl⟩
  ·rw [AHk (λh:AO d=>c2 h.2)]
   go_enter func106,ntmps106
   go_wp2
   go_ret
   exact ⟨rfl,rfl⟩
 ·rw [AHk (λh:AO d=>c1 h.1)]
  go_enter func106,ntmps106
  go_wp2
  go_ret
  exact ⟨rfl,rfl⟩
def nO (x y:Nat) (hx:x<2305843009213693952) (hy:y<2305843009213693952):bits .xor .i64 (x:Int) (y:Int)=((x ^^^ y:Nat):Int):=by
 show IntKind.i64.wrap ((BitVec.ofInt 64 (x:Int) ^^^ BitVec.ofInt 64 (y:Int)).toNat:Int)=_
 have h1:(BitVec.ofInt 64 (x:Int)).toNat=x:=by
  rw [AFW,AF9];exact AFf (by omega)
 have h2:(BitVec.ofInt 64 (y:Int)).toNat=y:=by
  rw [AFW,AF9];exact AFf (by omega)
 have h3:x ^^^ y<2 ^ 61:=Nat.xor_lt_two_pow (by omega) (by omega)
 rw [BitVec.toNat_xor,h1,h2,IntKind.wrap_i64]
 omega
def dU (x:Nat) (hx:x<2305843009213693952):bits .and .i64 (x:Int) 7=((x % 8:Nat):Int):=by
 show IntKind.i64.wrap ((BitVec.ofInt 64 (x:Int)&&& BitVec.ofInt 64 7).toNat:Int)=_
 have h1:(BitVec.ofInt 64 (x:Int)).toNat=x:=by
  rw [AFW,AF9];exact AFf (by omega)
 have h2:(BitVec.ofInt 64 7).toNat=2 ^ 3-1:=by decide
 rw [BitVec.toNat_and,h1,h2,AFO,IntKind.wrap_i64]
 omega
def Pd (a b:Int) (w:World) (ha:AO a) (hb:AO b):Calls prog 312 #[.int .i64 a,.int .i64 b] w λe w'=>e=.returned (.int .i64 (lv a.toNat b.toNat:Nat))/\w'=w:=by
 obtain ⟨A,rfl⟩:=AD8 ha.1
 obtain ⟨B,rfl⟩:=AD8 hb.1
 unfold AO at ha hb
 have x1:=nO A B (by omega) (by omega)
 have h3:A ^^^ B<2 ^ 61:=Nat.xor_lt_two_pow (by omega) (by omega)
 have hn:=Gp 61 _ h3 (by decide)
 rw [AD4,AD4]
 unfold lv
 have x2:IntKind.u64.wrap ((A ^^^ B:Nat):Int)=((A ^^^ B:Nat):Int):=by rw [IntKind.wrap_u64];omega
 have C:Hid (∀ w,_):=λw=>UP ((A ^^^ B:Nat):Int) w (by omega) (by omega)
 rw [AD4] at C
 generalize Lib.bitLen (A ^^^ B)=N at *
 generalize ((A ^^^ B:Nat):Int)=X at *
 have hn2:(N:Int)<=61:=by omega
 clear ha hb h3 hn
 by_cases h0:N=0
 ·subst h0
  go_enter func312,ntmps312
  go_wp2_with fail
  refine (C.out _).mono ?_
  rintro e w' ⟨rfl,rfl⟩
  go_wp2
  go_ret
  exact ⟨rfl,rfl⟩
 ·obtain ⟨M,rfl⟩:∃ M,N=M+1:=⟨N-1,by omega⟩
  rw [AFP]
  have hM:((M:Int)+1)-1=(M:Int):=by omega
  obtain ⟨q,hq⟩:∃ q,q=M / 3:=⟨_,rfl⟩
  rw [<- hq]
  have hM2:Hid ((M:Int) / 3=((q:Nat):Int)):=by
   show (M:Int) / 3=((q:Nat):Int)
   rw [hq]
   omega
  clear hq
  have hM3:(M:Int)<=60:=by omega
  clear hn2 h0
  go_enter func312,ntmps312
  go_wp2_with fail
  refine (C.out _).mono ?_
  rintro e w' ⟨rfl,rfl⟩
  go_wp2
  go_ret
  exact ⟨by rw [<- hM2.out];rfl,rfl⟩
def Pe (a:Int) (l:Nat) (w:World) (ha:AO a) (hl:(l:Int)<=20):Calls prog 313 #[.int .i64 a,.int .i64 (l:Nat)] w λe w'=>e=.returned (.int .i64 (a.toNat / 8 ^ l % 8:Nat))/\w'=w:=by
 obtain ⟨A,rfl⟩:=AD8 ha.1
 rw [AD4]
 have e1:(A:Int) / 2 ^ (l*3)=((A / 8 ^ l:Nat):Int):=by
  rw [p8,AEZ 3 l]
  simp
 have e2:=dU (A / 8 ^ l) (AEb (AF6 _ _) (by unfold AO at ha;omega))
 rw [<- e1] at e2
 generalize A / 8 ^ l % 8=r at *
 clear e1 ha
 go_enter func313,ntmps313
 go_wp2
 go_ret
 exact ⟨rfl,rfl⟩
def nv:Value:=.slice none 0 0
def Yo (R:Nat->List It) (r:Nat) (l:List It):Nat->List It:=λq=>if q=r then l else R q
def bl (V:List Value):List Nat:=V.flatMap ob
structure WR (w:World) (s:Nat) (now:Int) (mp:Option Nat) (V:List Value) (R:Nat->List It):Prop where
 st:AB w s (.int .i64 now::.map mp::V) 234
 vl:V.length=169
 own:∀ r,r<169->Own 299 w (V.getD r nv) (R r)
 apart:∀ r q,r<169->q<169->r≠q->∀ g,g∈ob (V.getD r nv)->g∉ob (V.getD q nv)
def BD (h:g∈ob (V.getD r nv)):g∈bl V:=by
 rw [ADY] at h
 cases e:V[r]? with
 | none=>rw [e] at h;simp [nv,ob,Value.ownBlock] at h
 | some v=>
  rw [e] at h
  exact AEX.2 ⟨v,AFI e,h⟩
def GO (h:g∈bl V):∃ r,r<V.length/\g∈ob (V.getD r nv):=by
 obtain ⟨v,hv,hg⟩:=AEX.1 h
 obtain ⟨i,hi,e⟩:=AEe.1 hv
 refine ⟨i,hi,?_⟩
 rw [ADY,ADZ hi,AEc,e]
 exact hg
def D9 (h:g∈bl (V.set r v)):g∈bl V\/g∈ob v:=by
 obtain ⟨u,hu,hg⟩:=AEX.1 h
 rcases AE9 hu with q | q
 ·exact Or.inl (AEX.2 ⟨u,q,hg⟩)
 ·subst q
  exact Or.inr hg
def Bx (V:List α) (c i:Nat) (v d:α) (hc:c<V.length):(V.set c v).getD i d=if i=c then v else V.getD i d:=by
 rw [ADY,AD6]
 by_cases e:c=i
 ·subst e
  simp [hc]
 ·rw [AHh e,AHh (λg=>e g.symm),ADY]
def WR.c0 (h:WR w s now mp V R):w.cell? ⟨s,0,none⟩=some (.int .i64 now):=h.st.cell 0
def WR.c1 (h:WR w s now mp V R):w.cell? ⟨s,1,none⟩=some (.map mp):=h.st.cell 1
def WR.cr (h:WR w s now mp V R) (hr:r<169):w.cell? ⟨s,2+r,none⟩=some (V.getD r nv):=by
 have hv:=h.vl
 rw [h.st.cell,show 2+r=r+1+1 by omega,ADf,ADf,ADY,ADZ (by omega)]
 rfl
def WR.shape {w:World} {s:Nat} {now:Int} {mp:Option Nat} {V:List Value} {R:Nat->List It} (h:WR w s now mp V R) {r:Nat} (hr:r<169):∃ a cap,V.getD r nv=.slice a (R r).length cap:=(h.own r hr).shape
def WR.lt {w:World} {s:Nat} {now:Int} {mp:Option Nat} {V:List Value} {R:Nat->List It} (h:WR w s now mp V R) {g:Nat} (hg:g∈bl V):g<w.heap.size:=by
 obtain ⟨r,hr,hm⟩:=GO hg
 exact (h.own r (by have:=h.vl;omega)).lt (BX.1 hm)
def WR.not (h:WR w s now mp V R) (b:AB w k cs t) (ht:299≠t):k∉bl V:=λhm=>by
 obtain ⟨r,hr,hg⟩:=GO hm
 exact (h.own r (by have:=h.vl;omega)).ne b ht (BX.1 hg) rfl
def WR.AA {B:Nat} {S:List Nat} {w w':World} {s:Nat} {now:Int} {mp:Option Nat} {V:List Value} {R:Nat->List It} (h:WR w s now mp V R) (f:Fr B S w w') (hB:w.heap.size<=B) (h1:s∉S) (h2:∀ g∈bl V,g∉S):WR w' s now mp V R:=
 ⟨h.st.AA f (AD7 h.st.lt hB) h1,h.vl,λr hr=>(h.own r hr).AA f λg hg=>⟨AD7 ((h.own r hr).lt hg) hB,h2 g (BD (BX.2 hg))⟩,h.apart⟩
def WR.below (h:WR w s now mp V R) (f:Below w.heap.size w w'):WR w' s now mp V R:=h.AA (Fr.AE f) (ADW _) (by simp) (by simp)
def WR.congr {R':Nat->List It} (h:WR w s now mp V R) (e:∀ r,r<169->R' r=R r):WR w s now mp V R':=⟨h.st,h.vl,λr hr=>by rw [e r hr];exact h.own r hr,h.apart⟩
def WR.store (h:WR w s now mp V R) (hr:r<169) {l':List It} (f:Fr w.heap.size (ob (V.getD r nv)) w w1) (o:Own 299 w1 v' l') (n:∀ g∈ob v',g∈ob (V.getD r nv)\/w.heap.size<=g):
 WR (w1.setCell ⟨s,2+r,none⟩ v') s now mp (V.set r v') (Yo R r l'):=by
 have hv:=h.vl
 have nb:s∉ob (V.getD r nv):=λe=>h.not h.st (by decide) (BD e)
 have s1:AB w1 s (.int .i64 now::.map mp::V) 234:=h.st.AA f h.st.lt nb
 have F:Fr w1.heap.size [s] w1 (w1.setCell ⟨s,2+r,none⟩ v'):=(Fr.refl _ _ _).setCell (Or.inr (by simp)) v'
 refine ⟨?_,by simpa using hv,λq hq=>?_,λq p hq hp hn g hg=>?_⟩
 ·have:=s1.set (2+r) v'
  rw [show 2+r=r+1+1 by omega,AD2,AD2] at this
  rw [show 2+r=r+1+1 by omega]
  exact this
 ·rw [Bx V r q v' nv (by omega)]
  unfold Yo
  by_cases e:q=r
  ·rw [AHi e,AHi e]
   exact o.AA F λg hg=>⟨o.lt hg,by simp;exact λe2=>o.ne s1 (by decide) hg e2.symm⟩
  ·rw [AHh e,AHh e]
   have k:=(h.own q hq).AA f λg hg=>⟨(h.own q hq).lt hg,λhm=>h.apart r q hr hq (λe2=>e e2.symm) g hm (BX.2 hg)⟩
   exact k.AA F λg hg=>⟨k.lt hg,by simp;exact λe2=>k.ne s1 (by decide) hg e2.symm⟩
 ·rw [Bx V r q v' nv (by omega)] at hg
  rw [Bx V r p v' nv (by omega)]
  by_cases e:q=r
  ·rw [AHi e] at hg
   rw [AHh (λe2=>hn (e.trans e2.symm))]
   rcases n g hg with m | m
   ·exact h.apart r p hr hp (λe2=>hn (e.trans e2)) g m
   ·intro m2
    have:=(h.own p hp).lt (BX.1 m2)
    omega
  ·rw [AHh e] at hg
   by_cases e2:p=r
   ·rw [AHi e2]
    intro m2
    rcases n g m2 with m | m
    ·exact h.apart q r hq hr e g hg m
    ·have:=(h.own q hq).lt (BX.1 hg)
     omega
   ·rw [AHh e2]
    exact h.apart q p hq hp hn g hg
def Ea (f:Fr w.heap.size (ob (V.getD r nv)) w w1):Fr w.heap.size (s::bl V) w (w1.setCell ⟨s,2+r,none⟩ v'):=
 (f.mono (ADW _) (λk _ hk hs=>hk (ADV _ (BD hs)))).setCell (Or.inr (by simp)) v'
def dV (n:∀ g∈ob v',g∈ob (V.getD r nv)\/w.heap.size<=g):∀ g∈bl (V.set r v'),g∈bl V\/w.heap.size<=g:=λg hg=>by
 rcases D9 hg with h | h
 ·exact Or.inl h
 ·rcases n g h with h | h
  ·exact Or.inl (BD h)
  ·exact Or.inr h
def Iu (d:Int) (h0:w.cell? ⟨s,0,none⟩=some (.int .i64 now)) (hn:AO now) (hd:AO d):
 Calls prog 259 #[.pointer (some ⟨s,0,none⟩),.int .i64 d] w λe w'=>e=.returned (.pointer (some ⟨s,2+rn now.toNat d.toNat,none⟩))/\Sm w' w:=by
 by_cases c:d<=now
 ·rw [Mp _ _ (by have:=hd.1;omega)]
  go_enter func259,ntmps259
  go_wp2
  go_ret
  exact ⟨rfl,rfl,rfl,rfl,rfl⟩
 ·rw [GH _ _ (by have:=hn.1;omega)]
  have C1:Hid (∀ w,_):=λw=>Pd now d w hn hd
  have hl:lv now.toNat d.toNat<=20:=Mb (by unfold AO at hn;unfold tk;omega) (by unfold AO at hd;unfold tk;omega)
  have C2:Hid (∀ w,_):=λw=>Pe d (lv now.toNat d.toNat) w hd (by omega)
  have hr:d.toNat / 8 ^ lv now.toNat d.toNat % 8<8:=AE8 _ (by decide)
  generalize d.toNat / 8 ^ lv now.toNat d.toNat % 8=r at *
  generalize lv now.toNat d.toNat=l at *
  have hl2:(l:Int)<21:=by omega
  have hr2:(r:Int)<8:=by omega
  have E:Hid (3+l*8+r=2+(1+8*l+r)):=by show 3+l*8+r=2+(1+8*l+r);omega
  clear hn hd hl hr
  go_enter func259,ntmps259
  go_wp2_with fail
  refine (C1.out _).mono ?_
  rintro e w' ⟨rfl,rfl⟩
  go_wp2_with fail
  go_region_held3 (λ_=>True) (trivial) (first | (go_at_call 313;refine (C2.out _).mono ?_;rintro e v1 ⟨rfl,rfl⟩))
  go_wp2
  go_ret
  exact ⟨by rw [<- E.out];rfl,rfl,rfl,rfl,rfl⟩
structure WH (w:World) (s:Nat) (now:Int) (mp:Option Nat) (V:List Value) (L:List It):Prop where
 wr:WR w s now mp V (rl (rm now) L)
 mq:(mp=none/\L=[])\/∃ b,mp=some b/\MQ 2 w b L.length (wn L)
 srt:BV L
 uni:Cw L
 tks:Hw L
 now:AO now
 ids:∀ x∈L,(Lit.int .i64 x.2).wf=true
def fp (s:Nat) (mp:Option Nat) (V:List Value):List Nat:=s::(mp.toList++bl V)
def AY:g∈fp s mp V↔g=s\/mp=some g\/g∈bl V:=by
 unfold fp
 cases mp with
 | none=>simp
 | some b=>simp [eq_comm]
def WW (w:World) (s:Nat) (now:Int) (L:List It) (F:List Nat):Prop:=∃ mp V,WH w s now mp V L/\F=fp s mp V
structure Mv (w w':World) (F F':List Nat):Prop where
 fr:Fr w.heap.size F w w'
 sub:∀ g∈F',g∈F\/w.heap.size<=g
def Mv.refl (w:World) (F:List Nat):Mv w w F F:=⟨Fr.refl _ _ _,λ_ h=>Or.inl h⟩
def Mv.trans {a b c:World} {F G H:List Nat} (h:Mv a b F G) (k:Mv b c G H):Mv a c F H:=by
 have hs:=h.fr.size
 refine ⟨⟨k.fr.os.trans h.fr.os,k.fr.tape.trans h.fr.tape,k.fr.output.trans h.fr.output,ADd hs k.fr.size,λi hi hn=>?_⟩,λg hg=>?_⟩
 ·rw [k.fr.block i (by omega) (λhm=>by rcases h.sub i hm with q | q;exact hn q;omega)]
  exact h.fr.block i hi hn
 ·rcases k.sub g hg with q | q
  ·exact h.sub g q
  ·exact Or.inr (by omega)
def Mv.below (f:Below w.heap.size w w') (F:List Nat):Mv w w' F F:=⟨(Fr.AE f).mono (ADW _) (by simp),λ_ h=>Or.inl h⟩
def MQ.Uu (h:MQ te w b m f) (k:WR w s now mp V R):b∉bl V:=λhm=>by
 obtain ⟨r,hr,hg⟩:=GO hm
 rcases (k.own r (by have:=k.vl;omega)).cases with ⟨e,_⟩ | ⟨g,cap,cur,e,hb,_⟩
 ·rw [e] at hg
  simp [ob,Value.ownBlock] at hg
 ·rw [e,Hz] at hg
  simp at hg
  subst hg
  exact h.AC hb rfl
def WH.Ri (h:(mp=none/\L=[])\/∃ b,mp=some b/\MQ 2 w b L.length (wn L)) (f:Fr B S w w') (hB:w.heap.size<=B) (hS:∀ b,mp=some b->b∉S):(mp=none/\L=[])\/∃ b,mp=some b/\MQ 2 w' b L.length (wn L):=by
 rcases h with h | ⟨b,e,m⟩
 ·exact Or.inl h
 ·exact Or.inr ⟨b,e,m.AA f (AD7 m.lt hB) (hS b e)⟩
def WH.AA {B:Nat} {S:List Nat} {w w':World} {s:Nat} {now:Int} {mp:Option Nat} {V:List Value} {L:List It} (h:WH w s now mp V L) (f:Fr B S w w') (hB:w.heap.size<=B) (hS:∀ g∈fp s mp V,g∉S):WH w' s now mp V L:=
 ⟨h.wr.AA f hB (hS _ (AY.2 (Or.inl rfl))) λg hg=>hS g (AY.2 (Or.inr (Or.inr hg))),WH.Ri h.mq f hB λb e=>hS b (AY.2 (Or.inr (Or.inl e))),h.srt,h.uni,h.tks,h.now,h.ids⟩
def WH.lt {w:World} {s:Nat} {now:Int} {mp:Option Nat} {V:List Value} {L:List It} (h:WH w s now mp V L) {g:Nat} (hg:g∈fp s mp V):g<w.heap.size:=by
 rcases AY.1 hg with e | e | e
 ·rw [e];exact h.wr.st.lt
 ·rcases h.mq with ⟨e2,_⟩ | ⟨b,e2,m⟩
  ·rw [e2] at e;cases e
  ·rw [e2] at e
   cases e
   exact m.lt
 ·exact h.wr.lt e
def WW.AA {B:Nat} {S:List Nat} {w w':World} {s:Nat} {now:Int} {L:List It} {F:List Nat} (h:WW w s now L F) (f:Fr B S w w') (hB:w.heap.size<=B) (hS:∀ g∈F,g∉S):WW w' s now L F:=by
 obtain ⟨mp,V,h,rfl⟩:=h
 exact ⟨mp,V,h.AA f hB hS,rfl⟩
def WW.below (h:WW w s now L F) (f:Below w.heap.size w w'):WW w' s now L F:=h.AA (Fr.AE f) (ADW _) (by simp)
def WW.lt {w:World} {s:Nat} {now:Int} {L:List It} {F:List Nat} (h:WW w s now L F) {g:Nat} (hg:g∈F):g<w.heap.size:=by
 obtain ⟨mp,V,h,rfl⟩:=h
 exact h.lt hg
def Gs (w:World):(zeroValue 2).run prog w=.ok (.int .i64 0) w:=by kernel_rfl
def L0 (x:It) (ho:Own 299 w (.slice a L.length cap) L) (hs:BV L) (hl:L.length<=2900):
 Calls prog 260 #[.slice a L.length cap,.agg #[.int .i64 x.2,.int .i64 x.1]] w λe w'=>(∃ b,e=.returned (.tuple #[.int .i64 (at_ L x:Nat),.bool b]))/\Below w.heap.size w w':=by
 have C:Hid (∀ _:Unit,_):=λ_=>nN (w:=w.alloc (.cells #[.int .i64 x.2,.int .i64 x.1] 299)) (cap:=cap) (a:=a) x (ho.AA (Fr.AE ((Below.refl w.heap.size w).alloc (ADW _) (.cells #[.int .i64 x.2,.int .i64 x.1] 299))) λg hg=>⟨ho.lt hg,by simp⟩) hs hl
 have B0:Hid (Below w.heap.size w (w.alloc (.cells #[.int .i64 x.2,.int .i64 x.1] 299))):=(Below.refl _ _).alloc (ADW _) _
 have BB:Hid (∀ v,Below (w.alloc (.cells #[.int .i64 x.2,.int .i64 x.1] 299)).heap.size (w.alloc (.cells #[.int .i64 x.2,.int .i64 x.1] 299)) v->Below w.heap.size w v):=λv h=>B0.out.trans (h.mono (by simp))
 generalize at_ L x=r at *
 generalize L.length=n at *
 clear ho hs hl
 go_enter func260,ntmps260
 go_wp2_with fail
 refine (C.out ()).mono ?_
 rintro e w' ⟨⟨b,rfl⟩,h⟩
 have H:=BB.out w' h
 have HH:Hid (Below w.heap.size w w'):=H
 clear h H
 go_wp2
 go_ret2
 exact ⟨⟨_,rfl⟩,HH.out⟩
def vS (w:World) (now:Int):WR (w.alloc (.cells ((.int .i64 now::.map none::List.replicate 169 nv):List Value).toArray 234)) w.heap.size now none (List.replicate 169 nv) (λ_=>[]):=by
 refine ⟨AB.new w _ _,AED,λr hr=>?_,λr q hr hq hn g hg=>?_⟩
 ·rw [ADY,AEA,AHi hr]
  exact Oc _ _
 ·rw [ADY,AEA,AHi hr] at hg
  simp [nv,ob,Value.ownBlock] at hg
def vT (w:World) (now:Int) (h:AO now):WH (w.alloc (.cells ((.int .i64 now::.map none::List.replicate 169 nv):List Value).toArray 234)) w.heap.size now none (List.replicate 169 nv) []:=
 ⟨vS w now,Or.inl ⟨rfl,rfl⟩,List.Pairwise.nil,List.Pairwise.nil,λx hx=>(by cases hx),h,λx hx=>(by cases hx)⟩
def WK:∃ Z:Array Value,Hid (∀ now:Int,Z.setIfInBounds 0 (.int .i64 now)=((.int .i64 now::.map none::List.replicate 169 nv):List Value).toArray)/\(¬ Z=#[])/\∀ w,(zeroValue 234).run prog w=.ok (.agg Z) w:=
 ⟨((.int .i64 0::.map none::List.replicate 169 nv):List Value).toArray,λnow=>by simp,by simp,λw=>by kernel_rfl⟩
def dW (now:Int) (w:World) (hn:AO now):
 Calls prog 66 #[.int .i64 now] w λe w'=>e=.returned (.tuple #[.pointer (some ⟨w.heap.size,0,none⟩),.int .i64 0])/\WW w' w.heap.size now [] [w.heap.size]/\Below w.heap.size w w':=by
 have C:Hid (∀ w,_):=λw=>EZ now w
 rw [AHj hn] at C
 obtain ⟨Z,hZ,hne,hz⟩:=WK
 have F:Hid (WW (w.alloc (.cells (Z.setIfInBounds 0 (.int .i64 now)) 234)) w.heap.size now [] [w.heap.size]/\Below w.heap.size w (w.alloc (.cells (Z.setIfInBounds 0 (.int .i64 now)) 234))):=by
  rw [hZ.out]
  exact ⟨⟨_,_,vT w now hn,by kernel_rfl⟩,(Below.refl _ _).alloc (ADW _) _⟩
 clear hn hZ
 go_enter func66,ntmps66
 go_wp2_with fail
 refine (C.out _).mono ?_
 rintro e w' ⟨rfl,rfl⟩
 go_wp2
 go_ret2
 exact ⟨rfl,F.out⟩
def BA (L:List It) (id d:Int):Int:=if AO d then (if (wn L id).isSome=true then 6 else 0) else 2
def Dn (L:List It) (id d:Int):List It:=if AO d then (if (wn L id).isSome=true then L else ins (d,id) L) else L
def Uv 
 (h:WR w2 s now (some mb) V (rl (rm now) L)) (m:MQ 2 w2 mb (L.length+1) (λj=>if j=id then some d else wn L j)) (srt:BV L) (uni:Cw L) (tks:Hw L) (hn:AO now) (ids:∀ x∈L,(Lit.int .i64 x.2).wf=true) (hi:(Lit.int .i64 id).wf=true) (hd:AO d) (hno:wn L id=none)
 (f:Fr w.heap.size F w w2) (hF:∀ g∈fp s (some mb) V,g∈F\/w.heap.size<=g)
 (hW:Below w2.heap.size w2 W) (o:Own 299 w' v' (ins (d,id) (rl (rm now) L (rm now (d,id))))) (fr:Fr W.heap.size (ob (V.getD (rm now (d,id)) nv)) W w') (sub:∀ g∈ob v',g∈ob (V.getD (rm now (d,id)) nv)\/W.heap.size<=g):
 (∃ F',WW (w'.setCell ⟨s,2+rm now (d,id),none⟩ v') s now (ins (d,id) L) F'/\Mv w (w'.setCell ⟨s,2+rm now (d,id),none⟩ v') F F'):=by
 have hr:rm now (d,id)<169:=Ir hn.1 hn.2 hd
 have nx:∀ y∈L,y.2≠id:=Dm.1 hno
 have nm:(d,id)∉L:=λhm=>nx _ hm rfl
 have hW2:=h.below hW
 have m2:MQ 2 W mb (L.length+1) _:=m.AA (Fr.AE hW) m.lt (by simp)
 have st:=hW2.store hr fr o sub
 have fs:=Ea (s:=s) (v':=v') fr
 have nb:mb∉s::bl V:=λhm=>by
  rcases AD0.1 hm with e | e
  ·exact m2.AC hW2.st e
  ·exact m2.Uu hW2 e
 have m3:MQ 2 (w'.setCell ⟨s,2+rm now (d,id),none⟩ v') mb (L.length+1) _:=m2.AA fs m2.lt nb
 refine ⟨_,⟨_,_,⟨st.congr λr _=>?_,Or.inr ⟨mb,rfl,?_⟩,Up srt _,OZ uni nx,λx hx=>?_,hn,λx hx=>?_⟩,rfl⟩,?_,λg hg=>?_⟩
 ·rw [vK srt nm]
  unfold Yo
  by_cases e:r=rm now (d,id)
  ·subst e;rfl
  ·rw [AHh e,AHh e]
 ·rw [nI srt nm]
  exact m3.congr λi=>by rw [Yk uni nx]
 ·rcases (Hv nm).1 hx with e | e
  ·rw [e];exact hd
  ·exact tks x e
 ·rcases (Hv nm).1 hx with e | e
  ·rw [e];exact hi
  ·exact ids x e
 ·have s1:=f.size
  have s2:=hW.size
  have f1:Fr w.heap.size F w2 W:=(Fr.AE hW).mono (by omega) (by simp)
  refine f.trans (f1.trans (fs.mono (by omega) λk hk hs hm=>?_))
  rcases hF k (by rcases AD0.1 hm with e | e;exact AY.2 (Or.inl e);exact AY.2 (Or.inr (Or.inr e))) with q | q
  ·exact hs q
  ·omega
 ·have s1:=f.size
  have s2:=hW.size
  rcases AY.1 hg with e | e | e
  ·exact hF g (AY.2 (Or.inl e))
  ·exact hF g (AY.2 (Or.inr (Or.inl e)))
  ·rcases dV sub g e with q | q
   ·exact hF g (AY.2 (Or.inr (Or.inr q)))
   ·exact Or.inr (by omega)
def Jl (w:World):(binOp .eql 229 (.map none) (.map none)).run prog w=.ok (.bool true) w:=by
 exact run_eql_map_nil w _ 3 2 none underlying229
def Iv (b:Nat) (w:World):(binOp .eql 229 (.map (some b)) (.map none)).run prog w=.ok (.bool false) w:=by
 exact run_eql_map_nil w _ 3 2 (some b) underlying229
def nP (id d:Int) (hd:¬ AO d):
 Calls prog 265 #[.pointer (some ⟨s,0,none⟩),.int .i64 id,.int .i64 d] w λe w'=>e=.returned (.int .i64 2)/\w'=w:=by
 have C:Hid (∀ w,_):=λw=>EZ d w
 rw [AHk hd] at C
 clear hd
 go_enter func265,ntmps265
 go_wp2_with fail
 refine (C.out _).mono ?_
 rintro e w' ⟨rfl,rfl⟩
 go_wp2
 go_ret
 exact ⟨rfl,rfl⟩
def vU (id d:Int) (hi:(Lit.int .i64 id).wf=true) (hd:AO d) (c1:w.cell? ⟨s,1,none⟩=some (.map (some mb))) (hm:MQ 2 w mb m f) (hs:(f id).isSome=true):
 Calls prog 265 #[.pointer (some ⟨s,0,none⟩),.int .i64 id,.int .i64 d] w λe w'=>e=.returned (.int .i64 6)/\w'=w:=by
 have C:Hid (∀ w,_):=λw=>EZ d w
 rw [AHj hd] at C
 have l:=DH (tm:=229) underlying2 underlying229 Gs hm hi
 rw [hs] at l
 generalize (f id).getD 0=v at *
 clear hd hm hs hi
 go_enter func265,ntmps265
 go_wp2_with fail
 refine (C.out _).mono ?_
 rintro e w' ⟨rfl,rfl⟩
 go_wp2
 go_ret
 exact ⟨rfl,rfl⟩
def dX (id d:Int) (hi:(Lit.int .i64 id).wf=true) (hd:AO d) (h:WH w s now (some mb) V L) (hno:wn L id=none) (hl:L.length<=1000):
 Calls prog 265 #[.pointer (some ⟨s,0,none⟩),.int .i64 id,.int .i64 d] w λe w'=>e=.returned (.int .i64 0)/\∃ F',WW w' s now (ins (d,id) L) F'/\Mv w w' (fp s (some mb) V) F':=by
 have C:Hid (∀ w,_):=λw=>EZ d w
 rw [AHj hd] at C
 have wd:(Lit.int .i64 d).wf=true:=by
  unfold AO at hd
  simp [Lit.wf,IntKind.min,IntKind.max,IntKind.signed,IntKind.bits]
  omega
 obtain ⟨M1⟩:Nonempty (MQ 2 w mb L.length (wn L)):=by
  rcases h.mq with ⟨e,_⟩ | ⟨b,e,m⟩
  ·cases e
  ·cases e;exact ⟨m⟩
 have l:=DH (tm:=229) underlying2 underlying229 Gs M1 hi
 rw [hno] at l
 have c1:=h.wr.c1
 have mn:=Iv mb
 obtain ⟨w2,r2,M2,f2⟩:=GM (tm:=229) underlying2 underlying229 M1 (by omega) hi wd
 rw [hno] at M2
 have W2:WR w2 s now (some mb) V (rl (rm now) L):=h.wr.AA f2 (ADW _) (by simp;exact λe=>M1.AC h.wr.st e.symm) (λg hg=>by simp;exact λe=>M1.Uu h.wr (e ▸ hg))
 have FF:Fr w.heap.size (fp s (some mb) V) w w2:=f2.mono (ADW _) λk _ hk hm=>hk (by simp at hm;subst hm;exact AY.2 (Or.inr (Or.inl rfl)))
 have HF:∀ g∈fp s (some mb) V,g∈fp s (some mb) V\/w.heap.size<=g:=λg hg=>Or.inl hg
 have MM:MQ 2 w2 mb (L.length+1) (λj=>if j=id then some d else wn L j):=M2
 have c0:=W2.c0
 have rr:rm now (d,id)<169:=Ir h.now.1 h.now.2 hd
 obtain ⟨a,cap,ev⟩:=W2.shape rr
 have cr:=W2.cr rr
 rw [ev] at cr
 have fz:=W2.st.free (2+rm now (d,id))
 have nx:(d,id)∉rl (rm now) L (rm now (d,id)):=λhm=>Dm.1 hno _ (Ms.1 hm).1 rfl
 have hl2:(rl (rm now) L (rm now (d,id))).length<=1000:=ADd (Hx _ _ _) hl
 have sr:=Re (f:=rm now) h.srt (rm now (d,id))
 have CR:Hid (∀ _:Unit,_):=λ_=>Iu (w:=w2) d c0 h.now hd
 have hat:=Kj (rl (rm now) L (rm now (d,id))) (d,id)
 have OW:Hid (∀ W:World,Below w2.heap.size w2 W->Own 299 W (.slice a (rl (rm now) L (rm now (d,id))).length cap) (rl (rm now) L (rm now (d,id)))/\W.cell? ⟨s,2+rm now (d,id),none⟩=some (.slice a (rl (rm now) L (rm now (d,id))).length cap)/\W.frozen? ⟨s,2+rm now (d,id),none⟩=false):=λW hW=>by
  have:=W2.below hW
  have o:=this.own _ rr
  have c:=this.cr rr
  rw [ev] at o c
  exact ⟨o,c,this.st.free _⟩
 have FI:Hid (∀ W:World,Below w2.heap.size w2 W->_):=λW hW=>L0 (w:=W) (a:=a) (cap:=cap) (d,id) (OW.out W hW).1 sr (by omega)
 have IN:Hid (∀ (W:World) (vb c:Nat),Below w2.heap.size w2 W->w2.heap.size<=vb->AB W vb (Af (d,id)) 299->Calls prog 322 #[.slice a (rl (rm now) L (rm now (d,id))).length cap,.int .i64 (at_ (rl (rm now) L (rm now (d,id))) (d,id):Nat),.slice (some ⟨vb,0,none⟩) 1 c] W λe w'=>∃ p n c,e=.returned (.slice p n c)/\w'.cell? ⟨s,2+rm now (d,id),none⟩=some (.slice a (rl (rm now) L (rm now (d,id))).length cap)/\w'.frozen? ⟨s,2+rm now (d,id),none⟩=false/\Hid (∃ F',WW (w'.setCell ⟨s,2+rm now (d,id),none⟩ (.slice p n c)) s now (ins (d,id) L) F'/\Mv w (w'.setCell ⟨s,2+rm now (d,id),none⟩ (.slice p n c)) (fp s (some mb) V) F')):=λW vb c hW hvb hb=>by
  obtain ⟨o,oc,of⟩:=OW.out W hW
  have w3:=W2.below hW
  refine (My (i:=at_ (rl (rm now) L (rm now (d,id))) (d,id)) (c:=c) o (by omega) hb (λhm=>?_) hat).mono ?_
  ·have:=o.lt (BX.1 hm)
   have h3:vb∈bl V:=by
    refine BD (r:=rm now (d,id)) ?_
    rw [ev]
    exact hm
   have:=W2.lt h3
   omega
  ·rintro e w' ⟨v',rfl,o',f',s'⟩
   rw [<- Yh sr nx] at o'
   obtain ⟨p,c',e'⟩:=o'.shape
   subst e'
   have k:AB w' s _ 234:=w3.st.AA f' w3.st.lt (λhm=>w3.not w3.st (by decide) (BD (r:=rm now (d,id)) (by rw [ev];exact hm)))
   have oc':w'.cell? ⟨s,2+rm now (d,id),none⟩=_:=(k.cell _).trans ((w3.st.cell _).symm.trans oc)
   rw [<- ev] at f' s'
   exact ⟨p,_,c',rfl,oc',k.free _,Uv W2 MM h.srt h.uni h.tks h.now h.ids hi hd hno FF HF hW o' f' s'⟩
 have BW:Hid (∀ w3:World,Sm w3 w2->∀ W:World,Below (w3.alloc (.cells #[.int .i64 id,.int .i64 d] 299)).heap.size (w3.alloc (.cells #[.int .i64 id,.int .i64 d] 299)) W->Below w2.heap.size w2 W/\w2.heap.size<=W.heap.size/\W.cell? ⟨w3.heap.size,0,none⟩=some (.int .i64 id)/\W.cell? ⟨w3.heap.size,1,none⟩=some (.int .i64 d)):=λw3 hs W hW=>by
  have b0:Below w2.heap.size w2 (w3.alloc (.cells #[.int .i64 id,.int .i64 d] 299)):=(hs.below (Below.refl _ _)).alloc (by rw [hs.1];exact ADW _) _
  have b1:=b0.trans (hW.mono (by simp [hs.1]))
  have nb:=AB.new w3 [.int .i64 id,.int .i64 d] 299
  refine ⟨b1,b1.size,?_,?_⟩
  ·rw [hW.cell (p:=⟨w3.heap.size,0,none⟩) (by simp)];exact nb.cell 0
  ·rw [hW.cell (p:=⟨w3.heap.size,1,none⟩) (by simp)];exact nb.cell 1
 unfold rm at *
 dsimp only at *
 generalize rn now.toNat d.toNat=r at *
 generalize at_ (rl (λx:It=>rn now.toNat x.1.toNat) L r) (d,id)=at0 at *
 generalize (rl (λx:It=>rn now.toNat x.1.toNat) L r).length=n0 at *
 have ha0:(at0:Int)<=1000:=by omega
 clear M1 MM HF FF M2 f2 W2 hno hl hl2 hat nx sr ev rr h hd hi wd
 go_enter func265,ntmps265
 go_wp2_with fail
 refine (C.out _).mono ?_
 rintro e w' ⟨rfl,rfl⟩
 go_wp2_with fail
 refine (CR.out ()).mono ?_
 rintro e w3 ⟨rfl,sm⟩
 obtain ⟨b3,s3,k1,k2⟩:=BW.out w3 sm _ (Below.refl _ _)
 obtain ⟨o3,oc3,of3⟩:=OW.out _ b3
 have KV:Hid (∀ W v1:World,Below W.heap.size W v1->Sm W (w3.alloc (.cells #[.int .i64 id,.int .i64 d] 299))->Below w2.heap.size w2 v1/\w2.heap.size<=v1.heap.size/\v1.cell? ⟨w3.heap.size,0,none⟩=some (.int .i64 id)/\v1.cell? ⟨w3.heap.size,1,none⟩=some (.int .i64 d)/\v1.cell? ⟨s,2+r,none⟩=some (.slice a n0 cap)/\v1.frozen? ⟨s,2+r,none⟩=false):=λW v1 hb hs=>by
  obtain ⟨q1,q2,q3,q4⟩:=BW.out w3 sm v1 (hs.from (by rw [<- hs.1];exact hb))
  obtain ⟨_,q5,q6⟩:=OW.out v1 q1
  exact ⟨q1,q2,q3,q4,q5,q6⟩
 have B3:Hid (Below w2.heap.size w2 (w3.alloc (.cells #[.int .i64 id,.int .i64 d] 299))):=b3
 clear o3 b3 s3 sm BW
 go_wp2_with fail
 generalize w3.alloc (.cells #[.int .i64 id,.int .i64 d] 299)=u at *
 go_region_held3 (λw'=>w'.cell? ⟨s,2+r,none⟩=some (.slice a n0 cap)/\w'.cell? ⟨w3.heap.size,0,none⟩=some (.int .i64 id)/\w'.cell? ⟨w3.heap.size,1,none⟩=some (.int .i64 d)) (go_keep) (first | (go_at_call 260;refine (FI.out _ B3.out.drew).mono ?_;rintro e v1 ⟨⟨bb,rfl⟩,b1⟩;obtain ⟨q1,q2,q3,q4,q5,q6⟩:=KV.out _ v1 b1 ⟨rfl,rfl,rfl,rfl⟩))
 go_wp2_with fail
 have IV:Hid (∀ W:World,Sm W (v1.alloc (.cells #[.int .i64 id,.int .i64 d] 299))->_):=λW hs=>IN.out W v1.heap.size 1 (hs.below (q1.alloc q2 _)) q2 ((AB.new v1 [.int .i64 id,.int .i64 d] 299).heap hs.1)
 have p3:(v1.alloc (.cells #[.int .i64 id,.int .i64 d] 299)).cell? ⟨w3.heap.size,0,none⟩=some (.int .i64 id):=Lib.cell?_alloc_some _ q3
 have p4:(v1.alloc (.cells #[.int .i64 id,.int .i64 d] 299)).cell? ⟨w3.heap.size,1,none⟩=some (.int .i64 d):=Lib.cell?_alloc_some _ q4
 have p5:(v1.alloc (.cells #[.int .i64 id,.int .i64 d] 299)).cell? ⟨s,2+r,none⟩=some (.slice a n0 cap):=Lib.cell?_alloc_some _ q5
 clear IN FI KV OW CR b1 q1 q2 k1 k2 oc3 of3 c0 cr fz
 go_region_with (first | (go_at_call 322;refine (IV.out _ ?_).mono ?_;(exact ⟨rfl,rfl,rfl,rfl⟩);rintro e w4 ⟨p,n,c,rfl,j1,j2,FF⟩))
 all_goals (go_wp2;go_ret;exact ⟨rfl,FF.out⟩)
def dY (id d:Int) (hi:(Lit.int .i64 id).wf=true) (hd:AO d) (h:WH w s now none V L) (hno:wn L id=none) (hl:L.length<=1000):
 Calls prog 265 #[.pointer (some ⟨s,0,none⟩),.int .i64 id,.int .i64 d] w λe w'=>e=.returned (.int .i64 0)/\∃ F',WW w' s now (ins (d,id) L) F'/\Mv w w' (fp s none V) F':=by
 have C:Hid (∀ w,_):=λw=>EZ d w
 rw [AHj hd] at C
 have wd:(Lit.int .i64 d).wf=true:=by
  unfold AO at hd
  simp [Lit.wf,IntKind.min,IntKind.max,IntKind.signed,IntKind.bits]
  omega
 obtain rfl:L=[]:=by
  rcases h.mq with ⟨_,e⟩ | ⟨b,e,_⟩
  ·exact e
  ·cases e
 have l:=Od (tm:=229) underlying229 Gs w hi
 have sl:=h.wr.st.lt
 have c1:=h.wr.c1
 have z1:=h.wr.st.free 1
 have mn:=Jl
 obtain ⟨mb,emb⟩:∃ mb,mb=w.heap.size:=⟨_,rfl⟩
 obtain ⟨w1,ew1⟩:∃ w1,w1=(w.alloc (.map #[] 0)).setCell ⟨s,1,none⟩ (.map (some mb)):=⟨_,rfl⟩
 have wa:=h.wr.below ((Below.refl w.heap.size w).alloc (ADW _) (.map #[] 0))
 have F0:Fr w.heap.size (fp s none V) w w1:=by
  rw [ew1]
  exact ((Fr.refl w.heap.size (fp s none V) w).alloc (ADW _) _).setCell (p:=⟨s,1,none⟩) (Or.inr (AY.2 (Or.inl rfl))) _
 have F1:Fr (w.alloc (.map #[] 0)).heap.size [s] (w.alloc (.map #[] 0)) w1:=by
  rw [ew1]
  exact (Fr.refl _ _ _).setCell (Or.inr (by simp)) _
 have W1:WR w1 s now (some mb) V (rl (rm now) []):=by
  refine ⟨?_,wa.vl,λr hr=>(wa.own r hr).AA F1 λg hg=>⟨(wa.own r hr).lt hg,by simp;exact λe=>(wa.own r hr).ne wa.st (by decide) hg e.symm⟩,wa.apart⟩
  rw [ew1]
  exact wa.st.set 1 _
 have M1:MQ 2 w1 mb 0 (λ_=>none):=by
  have:=Jj (te:=2) w
  rw [<- emb] at this
  exact this.AA F1 this.lt (by simp;omega)
 have d1:=W1.c1
 have y1:=wa.c1
 have y2:=wa.st.free 1
 obtain ⟨w2,r2,M2,f2⟩:=GM (tm:=229) underlying2 underlying229 M1 (by omega) hi wd
 have W2:WR w2 s now (some mb) V (rl (rm now) []):=W1.AA f2 (ADW _) (by simp;exact λe=>M1.AC W1.st e.symm) (λg hg=>by simp;exact λe=>M1.Uu W1 (e ▸ hg))
 have FF:Fr w.heap.size (fp s none V) w w2:=F0.trans (f2.mono F0.size λk hk _ hm=>by simp at hm;omega)
 have HF:∀ g∈fp s (some mb) V,g∈fp s none V\/w.heap.size<=g:=λg hg=>by
  rcases AY.1 hg with e | e | e
  ·exact Or.inl (AY.2 (Or.inl e))
  ·simp at e;exact Or.inr (by omega)
  ·exact Or.inl (AY.2 (Or.inr (Or.inr e)))
 have MM:MQ 2 w2 mb (([]:List It).length+1) (λj=>if j=id then some d else wn [] j):=M2
 rw [ew1] at d1 r2
 have mbs:=@run_makeMap prog
 subst emb
 have c0:=W2.c0
 have rr:rm now (d,id)<169:=Ir h.now.1 h.now.2 hd
 obtain ⟨a,cap,ev⟩:=W2.shape rr
 have cr:=W2.cr rr
 rw [ev] at cr
 have fz:=W2.st.free (2+rm now (d,id))
 have nx:(d,id)∉rl (rm now) ([]:List It) (rm now (d,id)):=λhm=>Dm.1 hno _ (Ms.1 hm).1 rfl
 have hl2:(rl (rm now) ([]:List It) (rm now (d,id))).length<=1000:=ADd (Hx _ _ _) hl
 have sr:=Re (f:=rm now) h.srt (rm now (d,id))
 have CR:Hid (∀ _:Unit,_):=λ_=>Iu (w:=w2) d c0 h.now hd
 have hat:=Kj (rl (rm now) ([]:List It) (rm now (d,id))) (d,id)
 have OW:Hid (∀ W:World,Below w2.heap.size w2 W->Own 299 W (.slice a (rl (rm now) ([]:List It) (rm now (d,id))).length cap) (rl (rm now) ([]:List It) (rm now (d,id)))/\W.cell? ⟨s,2+rm now (d,id),none⟩=some (.slice a (rl (rm now) ([]:List It) (rm now (d,id))).length cap)/\W.frozen? ⟨s,2+rm now (d,id),none⟩=false):=λW hW=>by
  have:=W2.below hW
  have o:=this.own _ rr
  have c:=this.cr rr
  rw [ev] at o c
  exact ⟨o,c,this.st.free _⟩
 have FI:Hid (∀ W:World,Below w2.heap.size w2 W->_):=λW hW=>L0 (w:=W) (a:=a) (cap:=cap) (d,id) (OW.out W hW).1 sr (by omega)
 have IN:Hid (∀ (W:World) (vb c:Nat),Below w2.heap.size w2 W->w2.heap.size<=vb->AB W vb (Af (d,id)) 299->Calls prog 322 #[.slice a (rl (rm now) ([]:List It) (rm now (d,id))).length cap,.int .i64 (at_ (rl (rm now) ([]:List It) (rm now (d,id))) (d,id):Nat),.slice (some ⟨vb,0,none⟩) 1 c] W λe w'=>∃ p n c,e=.returned (.slice p n c)/\w'.cell? ⟨s,2+rm now (d,id),none⟩=some (.slice a (rl (rm now) ([]:List It) (rm now (d,id))).length cap)/\w'.frozen? ⟨s,2+rm now (d,id),none⟩=false/\Hid (∃ F',WW (w'.setCell ⟨s,2+rm now (d,id),none⟩ (.slice p n c)) s now (ins (d,id) ([]:List It)) F'/\Mv w (w'.setCell ⟨s,2+rm now (d,id),none⟩ (.slice p n c)) (fp s none V) F')):=λW vb c hW hvb hb=>by
  obtain ⟨o,oc,of⟩:=OW.out W hW
  have w3:=W2.below hW
  refine (My (i:=at_ (rl (rm now) ([]:List It) (rm now (d,id))) (d,id)) (c:=c) o (by omega) hb (λhm=>?_) hat).mono ?_
  ·have:=o.lt (BX.1 hm)
   have h3:vb∈bl V:=by
    refine BD (r:=rm now (d,id)) ?_
    rw [ev]
    exact hm
   have:=W2.lt h3
   omega
  ·rintro e w' ⟨v',rfl,o',f',s'⟩
   rw [<- Yh sr nx] at o'
   obtain ⟨p,c',e'⟩:=o'.shape
   subst e'
   have k:AB w' s _ 234:=w3.st.AA f' w3.st.lt (λhm=>w3.not w3.st (by decide) (BD (r:=rm now (d,id)) (by rw [ev];exact hm)))
   have oc':w'.cell? ⟨s,2+rm now (d,id),none⟩=_:=(k.cell _).trans ((w3.st.cell _).symm.trans oc)
   rw [<- ev] at f' s'
   exact ⟨p,_,c',rfl,oc',k.free _,Uv W2 MM h.srt h.uni h.tks h.now h.ids hi hd hno FF HF hW o' f' s'⟩
 have BW:Hid (∀ w3:World,Sm w3 w2->∀ W:World,Below (w3.alloc (.cells #[.int .i64 id,.int .i64 d] 299)).heap.size (w3.alloc (.cells #[.int .i64 id,.int .i64 d] 299)) W->Below w2.heap.size w2 W/\w2.heap.size<=W.heap.size/\W.cell? ⟨w3.heap.size,0,none⟩=some (.int .i64 id)/\W.cell? ⟨w3.heap.size,1,none⟩=some (.int .i64 d)):=λw3 hs W hW=>by
  have b0:Below w2.heap.size w2 (w3.alloc (.cells #[.int .i64 id,.int .i64 d] 299)):=(hs.below (Below.refl _ _)).alloc (by rw [hs.1];exact ADW _) _
  have b1:=b0.trans (hW.mono (by simp [hs.1]))
  have nb:=AB.new w3 [.int .i64 id,.int .i64 d] 299
  refine ⟨b1,b1.size,?_,?_⟩
  ·rw [hW.cell (p:=⟨w3.heap.size,0,none⟩) (by simp)];exact nb.cell 0
  ·rw [hW.cell (p:=⟨w3.heap.size,1,none⟩) (by simp)];exact nb.cell 1
 unfold rm at *
 dsimp only at *
 generalize rn now.toNat d.toNat=r at *
 generalize at_ (rl (λx:It=>rn now.toNat x.1.toNat) ([]:List It) r) (d,id)=at0 at *
 generalize (rl (λx:It=>rn now.toNat x.1.toNat) ([]:List It) r).length=n0 at *
 have ha0:(at0:Int)<=1000:=by omega
 clear F0 F1 W1 M1 wa MM HF FF M2 f2 W2 sl hno hl hl2 hat nx sr ev rr h hd hi wd
 go_enter func265,ntmps265
 go_wp2_with fail
 refine (C.out _).mono ?_
 rintro e w' ⟨rfl,rfl⟩
 go_wp2_with fail
 refine (CR.out ()).mono ?_
 rintro e w3 ⟨rfl,sm⟩
 obtain ⟨b3,s3,k1,k2⟩:=BW.out w3 sm _ (Below.refl _ _)
 obtain ⟨o3,oc3,of3⟩:=OW.out _ b3
 have KV:Hid (∀ W v1:World,Below W.heap.size W v1->Sm W (w3.alloc (.cells #[.int .i64 id,.int .i64 d] 299))->Below w2.heap.size w2 v1/\w2.heap.size<=v1.heap.size/\v1.cell? ⟨w3.heap.size,0,none⟩=some (.int .i64 id)/\v1.cell? ⟨w3.heap.size,1,none⟩=some (.int .i64 d)/\v1.cell? ⟨s,2+r,none⟩=some (.slice a n0 cap)/\v1.frozen? ⟨s,2+r,none⟩=false):=λW v1 hb hs=>by
  obtain ⟨q1,q2,q3,q4⟩:=BW.out w3 sm v1 (hs.from (by rw [<- hs.1];exact hb))
  obtain ⟨_,q5,q6⟩:=OW.out v1 q1
  exact ⟨q1,q2,q3,q4,q5,q6⟩
 have B3:Hid (Below w2.heap.size w2 (w3.alloc (.cells #[.int .i64 id,.int .i64 d] 299))):=b3
 clear o3 b3 s3 sm BW
 go_wp2_with fail
 generalize w3.alloc (.cells #[.int .i64 id,.int .i64 d] 299)=u at *
 go_region_held3 (λw'=>w'.cell? ⟨s,2+r,none⟩=some (.slice a n0 cap)/\w'.cell? ⟨w3.heap.size,0,none⟩=some (.int .i64 id)/\w'.cell? ⟨w3.heap.size,1,none⟩=some (.int .i64 d)) (go_keep) (first | (go_at_call 260;refine (FI.out _ B3.out.drew).mono ?_;rintro e v1 ⟨⟨bb,rfl⟩,b1⟩;obtain ⟨q1,q2,q3,q4,q5,q6⟩:=KV.out _ v1 b1 ⟨rfl,rfl,rfl,rfl⟩))
 go_wp2_with fail
 have IV:Hid (∀ W:World,Sm W (v1.alloc (.cells #[.int .i64 id,.int .i64 d] 299))->_):=λW hs=>IN.out W v1.heap.size 1 (hs.below (q1.alloc q2 _)) q2 ((AB.new v1 [.int .i64 id,.int .i64 d] 299).heap hs.1)
 have p3:(v1.alloc (.cells #[.int .i64 id,.int .i64 d] 299)).cell? ⟨w3.heap.size,0,none⟩=some (.int .i64 id):=Lib.cell?_alloc_some _ q3
 have p4:(v1.alloc (.cells #[.int .i64 id,.int .i64 d] 299)).cell? ⟨w3.heap.size,1,none⟩=some (.int .i64 d):=Lib.cell?_alloc_some _ q4
 have p5:(v1.alloc (.cells #[.int .i64 id,.int .i64 d] 299)).cell? ⟨s,2+r,none⟩=some (.slice a n0 cap):=Lib.cell?_alloc_some _ q5
 clear IN FI KV OW CR b1 q1 q2 k1 k2 oc3 of3 c0 cr fz
 go_region_with (first | (go_at_call 322;refine (IV.out _ ?_).mono ?_;(exact ⟨rfl,rfl,rfl,rfl⟩);rintro e w4 ⟨p,n,c,rfl,j1,j2,FF⟩))
 all_goals (go_wp2;go_ret;exact ⟨rfl,FF.out⟩)
def H3 (id d:Int) (hi:(Lit.int .i64 id).wf=true) (h:WW w s now L F) (hl:L.length<=1000):
 Calls prog 265 #[.pointer (some ⟨s,0,none⟩),.int .i64 id,.int .i64 d] w λe w'=>e=.returned (.int .i64 (BA L id d))/\∃ F',WW w' s now (Dn L id d) F'/\Mv w w' F F':=by
 unfold BA Dn
 by_cases hd:AO d
 ·rw [AHi hd,AHi hd]
  obtain ⟨mp,V,h,rfl⟩:=h
  cases hn:wn L id with
  | some t=>
   rw [Option.isSome_some,AHi rfl,AHi rfl]
   rcases h.mq with ⟨_,e⟩ | ⟨mb,e,m⟩
   ·rw [e] at hn
    cases hn
   ·subst e
    refine (vU id d hi hd h.wr.c1 m (by rw [hn];rfl)).mono ?_
    rintro e w' ⟨rfl,rfl⟩
    exact ⟨rfl,_,⟨_,_,h,rfl⟩,Mv.refl _ _⟩
  | none=>
   rw [Option.isSome_none,AHh (by decide),AHh (by decide)]
   cases mp with
   | none=>exact dY id d hi hd h hn hl
   | some mb=>exact dX id d hi hd h hn hl
 ·rw [AHh hd,AHh hd]
  refine (nP id d hd).mono ?_
  rintro e w' ⟨rfl,rfl⟩
  exact ⟨rfl,F,h,Mv.refl _ _⟩
def kJ (L:List It) (id:Int):Int:=if (wn L id).isSome=true then 0 else 4
def dZ 
 (h:WH w s now (some mb) V L) (m:MQ 2 w2 mb (L.length-1) (λj=>if j=id then none else wn L j)) (hin:(d,id)∈L)
 (f:Fr w.heap.size [mb] w w2) (W2:WR w2 s now (some mb) V (rl (rm now) L))
 (hW:Below w2.heap.size w2 W) (o:Own 299 w' v' (Av id (rl (rm now) L (rm now (d,id))))) (fr:Fr W.heap.size (ob (V.getD (rm now (d,id)) nv)) W w') (sub:ob v'=ob (V.getD (rm now (d,id)) nv)):
 (∃ F',WW (w'.setCell ⟨s,2+rm now (d,id),none⟩ v') s now (Av id L) F'/\Mv w (w'.setCell ⟨s,2+rm now (d,id),none⟩ v') (fp s (some mb) V) F'):=by
 have hr:rm now (d,id)<169:=Ir h.now.1 h.now.2 (h.tks _ hin)
 have hW2:=W2.below hW
 have m2:MQ 2 W mb (L.length-1) _:=m.AA (Fr.AE hW) m.lt (by simp)
 have st:=hW2.store hr fr o (λg hg=>Or.inl (sub ▸ hg))
 have fs:=Ea (s:=s) (v':=v') fr
 have nb:mb∉s::bl V:=λhm=>by
  rcases AD0.1 hm with e | e
  ·exact m2.AC hW2.st e
  ·exact m2.Uu hW2 e
 have m3:MQ 2 (w'.setCell ⟨s,2+rm now (d,id),none⟩ v') mb (L.length-1) _:=m2.AA fs m2.lt nb
 have s1:=f.size
 have s2:=hW.size
 refine ⟨_,⟨_,_,⟨st.congr λr _=>?_,Or.inr ⟨mb,rfl,?_⟩,OY h.srt _,Kk h.uni _,λx hx=>h.tks x (Fs.1 hx).1,h.now,λx hx=>h.ids x (Fs.1 hx).1⟩,rfl⟩,?_,λg hg=>?_⟩
 ·rw [vL h.uni hin]
  unfold Yo
  by_cases e:r=rm now (d,id)
  ·subst e;rfl
  ·rw [AHh e,AHh e]
 ·have e:=Uq h.srt h.uni hin
  rw [show (Av id L).length=L.length-1 by dsimp only at e;omega]
  exact m3.congr λi=>by rw [Yl h.uni]
 ·have f1:Fr w.heap.size (fp s (some mb) V) w2 W:=(Fr.AE hW).mono (by omega) (by simp)
  have f0:Fr w.heap.size (fp s (some mb) V) w w2:=f.mono (ADW _) λk _ hk hm=>hk (by simp at hm;subst hm;exact AY.2 (Or.inr (Or.inl rfl)))
  refine f0.trans (f1.trans (fs.mono (by omega) λk hk hs hm=>hs ?_))
  rcases AD0.1 hm with e | e
  ·exact AY.2 (Or.inl e)
  ·exact AY.2 (Or.inr (Or.inr e))
 ·refine Or.inl ?_
  rcases AY.1 hg with e | e | e
  ·exact AY.2 (Or.inl e)
  ·exact AY.2 (Or.inr (Or.inl e))
  ·rcases D9 e with q | q
   ·exact AY.2 (Or.inr (Or.inr q))
   ·rw [sub] at q
    exact AY.2 (Or.inr (Or.inr (BD q)))
def nQ (id:Int) (hi:(Lit.int .i64 id).wf=true) (h:WH w s now mp V L) (hn:wn L id=none):
 Calls prog 202 #[.pointer (some ⟨s,0,none⟩),.int .i64 id] w λe w'=>e=.returned (.int .i64 4)/\w'=w:=by
 have c1:=h.wr.c1
 have l:(Instr.lookup 229 (.map mp) (.int .i64 id) true).run prog w=.ok (.tuple #[.int .i64 0,.bool false]) w:=by
  rcases h.mq with ⟨e,_⟩ | ⟨mb,e,m⟩
  ·rw [e]
   exact Od (tm:=229) underlying229 Gs w hi
  ·have:=DH (tm:=229) underlying2 underlying229 Gs m hi
   rw [hn] at this
   rw [e]
   exact this
 clear h hn hi
 go_enter func202,ntmps202
 go_wp2
 go_ret
 exact ⟨rfl,rfl⟩
def eA (id:Int) (hi:(Lit.int .i64 id).wf=true) (h:WH w s now (some mb) V L) (hn:wn L id=some d) (hl:L.length<=1000):
 Calls prog 202 #[.pointer (some ⟨s,0,none⟩),.int .i64 id] w λe w'=>e=.returned (.int .i64 0)/\∃ F',WW w' s now (Av id L) F'/\Mv w w' (fp s (some mb) V) F':=by
 have hin:=Mr hn
 have hd:AO d:=h.tks _ hin
 obtain ⟨M1⟩:Nonempty (MQ 2 w mb L.length (wn L)):=by
  rcases h.mq with ⟨e,_⟩ | ⟨b,e,m⟩
  ·cases e
  ·cases e;exact ⟨m⟩
 have l:=DH (tm:=229) underlying2 underlying229 Gs M1 hi
 rw [hn] at l
 have c1:=h.wr.c1
 obtain ⟨w2,r2,M2,f2⟩:=Jk (tm:=229) underlying229 M1 hi (by rw [hn];rfl) 0
 have W2:WR w2 s now (some mb) V (rl (rm now) L):=h.wr.AA f2 (ADW _) (by simp;exact λe=>M1.AC h.wr.st e.symm) (λg hg=>by simp;exact λe=>M1.Uu h.wr (e ▸ hg))
 have c0:=W2.c0
 have rr:rm now (d,id)<169:=Ir h.now.1 h.now.2 hd
 obtain ⟨a,cap,ev⟩:=W2.shape rr
 have hl2:(rl (rm now) L (rm now (d,id))).length<=1000:=ADd (Hx _ _ _) hl
 have sr:=Re (f:=rm now) h.srt (rm now (d,id))
 have ur:=vM (f:=rm now) h.uni (rm now (d,id))
 have ir:(d,id)∈rl (rm now) L (rm now (d,id)):=Ms.2 ⟨hin,rfl⟩
 have CR:Hid (∀ _:Unit,_):=λ_=>Iu (w:=w2) d c0 h.now hd
 have hat:=kI sr ir
 have OW:Hid (∀ W:World,Below w2.heap.size w2 W->Own 299 W (.slice a (rl (rm now) L (rm now (d,id))).length cap) (rl (rm now) L (rm now (d,id)))/\W.cell? ⟨s,2+rm now (d,id),none⟩=some (.slice a (rl (rm now) L (rm now (d,id))).length cap)/\W.frozen? ⟨s,2+rm now (d,id),none⟩=false):=λW hW=>by
  have:=W2.below hW
  have o:=this.own _ rr
  have c:=this.cr rr
  rw [ev] at o c
  exact ⟨o,c,this.st.free _⟩
 have FI:Hid (∀ W:World,Below w2.heap.size w2 W->_):=λW hW=>L0 (w:=W) (a:=a) (cap:=cap) (d,id) (OW.out W hW).1 sr (by omega)
 have DE:Hid (∀ W:World,Below w2.heap.size w2 W->Calls prog 261 #[.slice a (rl (rm now) L (rm now (d,id))).length cap,.int .i64 (at_ (rl (rm now) L (rm now (d,id))) (d,id):Nat),.int .i64 ((at_ (rl (rm now) L (rm now (d,id))) (d,id):Nat)+1)] W λe w'=>∃ p n c,e=.returned (.slice p n c)/\w'.cell? ⟨s,2+rm now (d,id),none⟩=some (.slice a (rl (rm now) L (rm now (d,id))).length cap)/\w'.frozen? ⟨s,2+rm now (d,id),none⟩=false/\Hid (∃ F',WW (w'.setCell ⟨s,2+rm now (d,id),none⟩ (.slice p n c)) s now (Av id L) F'/\Mv w (w'.setCell ⟨s,2+rm now (d,id),none⟩ (.slice p n c)) (fp s (some mb) V) F')):=λW hW=>by
  obtain ⟨o,oc,of⟩:=OW.out W hW
  have w3:=W2.below hW
  refine (WJ (i:=at_ (rl (rm now) L (rm now (d,id))) (d,id)) o hat).mono ?_
  rintro e w' ⟨v',rfl,o',f',s'⟩
  rw [<- Yj sr ur ir] at o'
  obtain ⟨p,c',e'⟩:=o'.shape
  subst e'
  have k:AB w' s _ 234:=w3.st.AA f' w3.st.lt (λhm=>w3.not w3.st (by decide) (BD (r:=rm now (d,id)) (by rw [ev];exact hm)))
  have oc':w'.cell? ⟨s,2+rm now (d,id),none⟩=_:=(k.cell _).trans ((w3.st.cell _).symm.trans oc)
  rw [<- ev] at f' s'
  exact ⟨p,_,c',rfl,oc',k.free _,dZ h M2 hin f2 W2 hW o' f' s'⟩
 unfold rm at *
 dsimp only at *
 generalize rn now.toNat d.toNat=r at *
 generalize at_ (rl (λx:It=>rn now.toNat x.1.toNat) L r) (d,id)=at0 at *
 generalize (rl (λx:It=>rn now.toNat x.1.toNat) L r).length=n0 at *
 have ha0:(at0:Int)<=1000:=by omega
 clear M1 M2 f2 W2 hn hl hl2 hat sr ur ir ev rr h hd hi hin
 go_enter func202,ntmps202
 go_wp2_with fail
 refine (CR.out ()).mono ?_
 rintro e w3 ⟨rfl,sm⟩
 have b3:=sm.below (Below.refl w2.heap.size w2)
 obtain ⟨o3,oc3,of3⟩:=OW.out _ b3
 have F3:Hid (∀ _:Unit,_):=λ_=>FI.out _ b3
 have KV:Hid (∀ v1:World,Below w3.heap.size w3 v1->Below w2.heap.size w2 v1):=λv1 hb=>sm.from (by rw [<- sm.1];exact hb)
 clear o3 b3 sm c0
 go_wp2_with fail
 refine (F3.out ()).mono ?_
 rintro e v1 ⟨⟨bb,rfl⟩,b1⟩
 have q1:=KV.out v1 b1
 obtain ⟨o4,oc4,of4⟩:=OW.out _ q1
 have D4:Hid (∀ _:Unit,_):=λ_=>DE.out _ q1
 clear o4 q1 b1
 go_wp2_with fail
 refine (D4.out ()).mono ?_
 rintro e w4 ⟨p,n,c,rfl,j1,j2,FF⟩
 go_wp2
 go_ret
 exact ⟨rfl,FF.out⟩
def Il (id:Int) (hi:(Lit.int .i64 id).wf=true) (h:WW w s now L F) (hl:L.length<=1000):
 Calls prog 202 #[.pointer (some ⟨s,0,none⟩),.int .i64 id] w λe w'=>e=.returned (.int .i64 (kJ L id))/\∃ F',WW w' s now (Av id L) F'/\Mv w w' F F':=by
 unfold kJ
 obtain ⟨mp,V,h,rfl⟩:=h
 cases hn:wn L id with
 | none=>
  rw [Option.isSome_none,AHh (by decide),Ly (Dm.1 hn)]
  refine (nQ id hi h hn).mono ?_
  rintro e w' ⟨rfl,rfl⟩
  exact ⟨rfl,_,⟨_,_,h,rfl⟩,Mv.refl _ _⟩
 | some d=>
  rw [Option.isSome_some,AHi rfl]
  rcases h.mq with ⟨_,e⟩ | ⟨mb,e,m⟩
  ·rw [e] at hn
   cases hn
  ·subst e
   exact eA id hi h hn hl
def SI (w wr:World) (s:Nat) (now:Int) (mp:Option Nat) (V:List Value) (R:Nat->List It) (j:Nat) (v:Value) (i:Nat):Prop:=
 ∃ Vi,WR wr s now mp Vi (GJ (rm now) R j i)/\Own 299 wr v (R j)/\(∀ g∈ob v,g∉s::bl Vi)/\Fr w.heap.size (s::bl V) w wr/\∀ g∈bl Vi,g∈bl V\/w.heap.size<=g
def eC (h:WR w s now mp V R) (hj:j<169):SI w (w.setCell ⟨s,2+j,none⟩ nv) s now mp V R j (V.getD j nv) 0:=by
 have st:=h.store (v':=nv) (l':=[]) hj (Fr.refl _ _ _) (Oc _ _) (λg hg=>by simp [nv,ob,Value.ownBlock] at hg)
 have F:Fr w.heap.size [s] w (w.setCell ⟨s,2+j,none⟩ nv):=(Fr.refl _ _ _).setCell (Or.inr (by simp)) _
 have o:=h.own j hj
 have hv:=h.vl
 have nb:∀ g∈ob (V.getD j nv),g∉bl (V.set j nv):=λg hg hm=>by
  obtain ⟨r,hr,hg2⟩:=GO hm
  rw [AEU] at hr
  rw [Bx V j r nv nv (by omega)] at hg2
  by_cases e:r=j
  ·rw [AHi e] at hg2
   simp [nv,ob,Value.ownBlock] at hg2
  ·rw [AHh e] at hg2
   exact h.apart j r hj (by omega) (λq=>e q.symm) g hg hg2
 refine ⟨V.set j nv,st.congr λr _=>?_,o.AA F λg hg=>⟨o.lt hg,?_⟩,λg hg hm=>?_,F.mono (ADW _) λk _ hk hm=>hk (by simp at hm;simp [hm]),λg hg=>?_⟩
 ·rw [Ym]
  rfl
 ·simp
  exact λe=>o.ne h.st (by decide) hg e.symm
 ·rcases AD0.1 hm with e | e
  ·exact o.ne h.st (by decide) (BX.1 hg) e.symm
  ·exact nb g hg e
 ·rcases D9 hg with q | q
  ·exact Or.inl q
  ·simp [nv,ob,Value.ownBlock] at q
def nS (h:SI w wr s now mp V R j v i) (hx:(R j)[i]?=some x) (hq:rm now x<169) (hl:(GJ (rm now) R j i (rm now x)).length<=2800) (hW:Below wr.heap.size wr W) (vb:Nat) (hb:AB W vb (Af x) 299):
 ∃ a n c p n' c',W.cell? ⟨s,2+rm now x,none⟩=some (.slice a n c)/\∃ w',(∀ ty,(Builtin.append_ #[230,230] ty #[.slice a n c,.slice (some ⟨vb,0,none⟩) 1 1]).run prog W=.ok (.slice p n' c') w')/\w'.cell? ⟨s,2+rm now x,none⟩=some (.slice a n c)/\w'.frozen? ⟨s,2+rm now x,none⟩=false/\SI w (w'.setCell ⟨s,2+rm now x,none⟩ (.slice p n' c')) s now mp V R j v (i+1):=by
 obtain ⟨Vi,wi,o,nb,f,sb⟩:=h
 have wW:=wi.below hW
 have oW:=o.AA (Fr.AE hW) λg hg=>⟨o.lt hg,by simp⟩
 obtain ⟨a,c,ev⟩:=wW.shape hq
 have oq:=wW.own _ hq
 obtain ⟨i0,hi0,hz0,hzs,hzb⟩:=info_parts Tryz.Mu
 obtain ⟨v',w',r,o',gr,bl'⟩:=Li (P:=prog) W 230 0 299 i0 _ 2 16 underlying230 hi0 hz0 hzs hzb rfl (by decide) (by decide) oq ⟨vb,0,none⟩ 1 1 (Af x) rfl
  (λj u hj=>by rw [Addr.add_lit,ADs,hb.cell];exact hj) (λv hv=>by unfold Af at hv;simp at hv;rcases hv with rfl | rfl <;> rfl) (by omega)
 have o2:Own 299 w' v' (GJ (rm now) R j i (rm now x)++[x]):=by
  unfold Own
  rw [ADa,Kn]
  exact o'
 have f2:Fr W.heap.size (ob (Vi.getD (rm now x) nv)) W w':=(Fr.refl _ _ _).grown gr (ADW _) (λk hk=>Or.inr (BX.2 hk))
 have s2:∀ g∈ob v',g∈ob (Vi.getD (rm now x) nv)\/W.heap.size<=g:=λg hg=>by
  rcases bl' g (BX.1 hg) with q | q
  ·exact Or.inl (BX.2 q)
  ·exact Or.inr q
 have st:=wW.store hq f2 o2 s2
 have fs:=Ea (s:=s) (v':=v') f2
 have k:AB w' s _ 234:=wW.st.AA f2 wW.st.lt (λhm=>wW.not wW.st (by decide) (BD hm))
 have cW:=wW.cr hq
 rw [ev] at cW r
 have cw':w'.cell? ⟨s,2+rm now x,none⟩=_:=(k.cell _).trans ((wW.st.cell _).symm.trans cW)
 obtain ⟨p,c',e'⟩:=o2.shape
 subst e'
 have s3:=hW.size
 have s4:=f.size
 refine ⟨a,_,c,p,_,c',cW,w',λty=>r,cw',k.free _,_,st.congr λr _=>?_,oW.AA fs λg hg=>⟨oW.lt hg,nb g (BX.2 hg)⟩,λg hg hm=>?_,?_,λg hg=>?_⟩
 ·rw [mid_step _ _ _ _ x hx]
  unfold Yo
  by_cases e:r=rm now x
  ·rw [AHi e,AHi e,e]
  ·rw [AHh e,AHh e]
 ·rcases AD0.1 hm with e | e
  ·exact nb g hg (by rw [e];exact ADX)
  ·rcases D9 e with q | q
   ·exact nb g hg (ADV _ q)
   ·rcases s2 g q with q | q
    ·exact nb g hg (ADV _ (BD q))
    ·have:=oW.lt (BX.1 hg)
     omega
 ·have f1:Fr w.heap.size (s::bl V) wr W:=(Fr.AE hW).mono (by omega) (by simp)
  refine f.trans (f1.trans (fs.mono (by omega) λk hk hs hm=>?_))
  rcases AD0.1 hm with e | e
  ·exact hs (by rw [e];exact ADX)
  ·rcases sb k e with q | q
   ·exact hs (ADV _ q)
   ·omega
 ·rcases D9 hg with q | q
  ·exact sb g q
  ·rcases s2 g q with q | q
   ·exact sb g (BD q)
   ·exact Or.inr (by omega)
def WL (l k:Nat) (hl:(l:Int)<21) (hk:(k:Int)<8) (h:WR w s now mp V R) (hn:AO now) (ht:∀ x∈R (1+8*l+k),AO x.1) (hz:∀ r,(R r).length<=1000):
 Calls prog 330 #[.pointer (some ⟨s,0,none⟩),.int .i64 l,.int .i64 k] w λe w'=>e=.returned (.tuple #[])/\∃ V',WR w' s now mp V' (GJ (rm now) R (1+8*l+k) (R (1+8*l+k)).length)/\Fr w.heap.size (s::bl V) w w'/\∀ g∈bl V',g∈bl V\/w.heap.size<=g:=by
 obtain ⟨j,hj⟩:∃ j,j=1+8*l+k:=⟨_,rfl⟩
 have ej:3+l*8+k=2+j:=by omega
 rw [<- hj] at ht ⊢
 have hj2:j<169:=by omega
 obtain ⟨a,cap,ev⟩:=h.shape hj2
 have c0:=h.cr hj2
 have z0:=h.st.free (2+j)
 rw [ev] at c0
 have S0:=eC h hj2
 rw [ev] at S0
 have P0:Hid (SI w (w.setCell ⟨s,2+j,none⟩ (.slice none 0 0)) s now mp V R j (.slice a (R j).length cap) 0):=S0
 have FIN:Hid (∀ wr,SI w wr s now mp V R j (.slice a (R j).length cap) (R j).length->∃ V',WR wr s now mp V' (GJ (rm now) R j (R j).length)/\Fr w.heap.size (s::bl V) w wr/\∀ g∈bl V',g∈bl V\/w.heap.size<=g):=λwr ⟨Vi,h1,_,_,h4,h5⟩=>⟨Vi,h1,h4,h5⟩
 have ST:Hid (∀ (wr:World) (i:Nat),SI w wr s now mp V R j (.slice a (R j).length cap) i->i<(R j).length->∃ g x,a=some ⟨g,0,none⟩/\wr.cell? ⟨g,i*2,none⟩=some (.int .i64 x.2)/\wr.cell? ⟨g,i*2+1,none⟩=some (.int .i64 x.1)/\Hid (∀ u1:World,Sm u1 (wr.alloc (.cells #[.int .i64 x.2,.int .i64 x.1] 299))->u1.cell? ⟨s,0,none⟩=some (.int .i64 now)/\u1.cell? ⟨wr.heap.size,0,none⟩=some (.int .i64 x.2)/\u1.cell? ⟨wr.heap.size,1,none⟩=some (.int .i64 x.1)/\AO x.1/\
  ∃ a' n' c' p n2 c2,u1.cell? ⟨s,2+rm now x,none⟩=some (.slice a' n' c')/\∃ w',(∀ ty,(Builtin.append_ #[230,230] ty #[.slice a' n' c',.slice (some ⟨u1.heap.size,0,none⟩) 1 1]).run prog (u1.alloc (.cells #[.int .i64 x.2,.int .i64 x.1] 299)).drew=.ok (.slice p n2 c2) w')/\w'.cell? ⟨s,2+rm now x,none⟩=some (.slice a' n' c')/\w'.frozen? ⟨s,2+rm now x,none⟩=false/\Hid (SI w (w'.setCell ⟨s,2+rm now x,none⟩ (.slice p n2 c2)) s now mp V R j (.slice a (R j).length cap) (i+1)))):=λwr i hS hi=>by
  obtain ⟨Vi,wi,o,nb,f,sb⟩:=hS
  obtain ⟨g,x,e,hg,hx,h1,h2⟩:=M0 o hi
  refine ⟨g,x,e,h1,h2,λu1 hs=>?_⟩
  have bu:Below wr.heap.size wr u1:=hs.below ((Below.refl _ _).alloc (ADW _) _)
  have su:wr.heap.size<=u1.heap.size:=bu.size
  have nw:=(AB.new wr [.int .i64 x.2,.int .i64 x.1] 299).heap hs.1
  have tx:AO x.1:=ht x (AFI hx)
  have hq:rm now x<169:=Ir hn.1 hn.2 tx
  have bW:Below wr.heap.size wr (u1.alloc (.cells #[.int .i64 x.2,.int .i64 x.1] 299)).drew:=(bu.alloc su _).drew
  have hlen:(GJ (rm now) R j i (rm now x)).length<=2800:=by
   unfold GJ rl
   rw [ADa]
   have q1:=ADq (λy=>decide (rm now y=rm now x)) ((R j).take i)
   have q2:=hz (rm now x)
   have q3:=hz j
   rw [AEW] at q1
   split <;> simp <;> omega
  obtain ⟨a',n',c',p,n2,c2,k1,w',k2,k3,k4,k5⟩:=nS (W:=(u1.alloc (.cells #[.int .i64 x.2,.int .i64 x.1] 299)).drew) ⟨Vi,wi,o,nb,f,sb⟩ hx hq hlen bW u1.heap.size ((AB.new u1 [.int .i64 x.2,.int .i64 x.1] 299).heap rfl)
  have wu:=wi.below bu
  have cu:=wu.cr hq
  have cW:=(wi.below bW).cr hq
  rw [k1] at cW
  rw [<- cW] at cu
  exact ⟨wu.c0,nw.cell 0,nw.cell 1,tx,a',n',c',p,n2,c2,cu,w',k2,k3,k4,k5⟩
 have hzj:=hz j
 generalize (R j).length=n at *
 have hn2:(n:Int)<=1000:=by omega
 have CR:Hid (∀ (w:World) (d:Int),w.cell? ⟨s,0,none⟩=some (.int .i64 now)->AO d->_):=λw d hc hd=>Iu (w:=w) d hc hn hd
 clear hj hj2 ev S0 h ht hz hzj hn
 go_enter func330,ntmps330
 go_wp2_with fail
 go_loopw [27] (λi wr=>∃ k:Nat,(k:Int)<=n/\i=.int .i64 k/\Hid (SI w wr s now mp V R j (.slice a n cap) k)) (λi _=>n-(intOf i).toNat)
 case atStart=>exact ⟨0,by omega,rfl,P0⟩
 case round=>
  obtain ⟨i,hi,rfl,S⟩:=hrel
  by_cases h:(i:Int)<n
  ·obtain ⟨g,x,rfl,k1,k2,K⟩:=ST.out wr i S.out (by omega)
   obtain ⟨y0,y1,y2,tx,_⟩:=K.out _ ⟨rfl,rfl,rfl,rfl⟩
   have R1:Hid (∀ _:Unit,_):=λ_=>CR.out _ x.1 y0 tx
   clear S tx
   go_wp2_with fail
   refine (R1.out ()).mono ?_
   rintro e u1 ⟨rfl,sm⟩
   obtain ⟨q0,q1,q2,_,a',n',c',p,n2,c2,q3,w',q4,q5,q6,Q⟩:=K.out u1 sm
   have p1:(u1.alloc (.cells #[.int .i64 x.2,.int .i64 x.1] 299)).cell? ⟨wr.heap.size,0,none⟩=some (.int .i64 x.2):=Lib.cell?_alloc_some _ q1
   have p2:(u1.alloc (.cells #[.int .i64 x.2,.int .i64 x.1] 299)).cell? ⟨wr.heap.size,1,none⟩=some (.int .i64 x.1):=Lib.cell?_alloc_some _ q2
   have p3:(u1.alloc (.cells #[.int .i64 x.2,.int .i64 x.1] 299)).cell? ⟨s,2+rm now x,none⟩=some (.slice a' n' c'):=Lib.cell?_alloc_some _ q3
   have Q4:Hid _:=q4
   unfold rm at *
   clear K sm y0 y1 y2 k1 k2 q4 P0
   go_wp2_with fail
   go_region_law (refine D8 rfl (.tmp 38) (.tmp 40) 230 230 rfl (.slice a' n' c') (.slice (some ⟨u1.heap.size,0,none⟩) 1 1) (by simp [Act.eval]) (by simp [Act.eval]) (Q4.out _) ?_)
   all_goals (go_wp2;go_roundw)
   all_goals first | exact ⟨i+1,by omega,by go_num,Q⟩ | (simp [intOf];omega)
  ·obtain rfl:i=n:=by omega
   have FF:Hid (∃ V',_):=FIN.out wr S.out
   clear S
   go_wp2
   go_end0
   exact ⟨rfl,FF.out⟩
def M6 (now n:Int):Int:=if n<now\/1152921504606846976<n then 2 else 0
def M7 (now n:Int):Int:=if n<now\/1152921504606846976<n then now else n
def GI (w wr:World) (s:Nat) (now n:Int) (mp:Option Nat) (V:List Value) (L:List It) (j:Nat):Prop:=
 ∃ Vi,WR wr s n mp Vi (rl (fj now n j) L)/\Fr w.heap.size (s::bl V) w wr/\∀ g∈bl Vi,g∈bl V\/w.heap.size<=g
def eD {n:Int} (h:WH w s now mp V L) (hn:now<=n):GI w (w.setCell ⟨s,0,none⟩ (.int .i64 n)) s now n mp V L 0:=by
 have F:Fr w.heap.size [s] w (w.setCell ⟨s,0,none⟩ (.int .i64 n)):=(Fr.refl _ _ _).setCell (Or.inr (by simp)) _
 refine ⟨V,⟨h.wr.st.set 0 _,h.wr.vl,λr hr=>?_,h.wr.apart⟩,F.mono (ADW _) λk _ hk hm=>hk (by simp at hm;simp [hm]),λg hg=>Or.inl hg⟩
 rw [Rc h.tks h.now.1 hn]
 have o:=h.wr.own r hr
 exact o.AA F λg hg=>⟨o.lt hg,by simp;exact λe=>o.ne h.wr.st (by decide) hg e.symm⟩
def nT {n:Int} (h:GI w wr s now n mp V L j) (srt:BV L) (tks:Hw L) (h0:AO now) (hn:now<=n) (h1:AO n) (hl:L.length<=1000) (l k:Nat) (hl2:(l:Int)<21) (hk:(k:Int)<8) (hj:j=8*l+k) (hJ:j+1<=jn now.toNat n.toNat):
 Calls prog 330 #[.pointer (some ⟨s,0,none⟩),.int .i64 l,.int .i64 k] wr λe w'=>e=.returned (.tuple #[])/\GI w w' s now n mp V L (j+1):=by
 obtain ⟨Vi,wi,f,sb⟩:=h
 have ej:1+8*l+k=j+1:=by omega
 refine (WL l k hl2 hk wi h1 (λx hx=>tks x (Ms.1 hx).1) (λr=>ADd (Hx _ _ _) hl)).mono ?_
 rintro e w' ⟨rfl,V',w2,f2,s2⟩
 rw [ej] at w2
 have z:=f.size
 refine ⟨rfl,V',w2.congr λr _=>?_,f.trans (f2.mono z λk hk hs hm=>?_),λg hg=>?_⟩
 ·rw [mid_end]
  exact (Tn srt tks h0.1 hn h1.2 hJ r).symm
 ·rcases AD0.1 hm with e | e
  ·exact hs (by rw [e];exact ADX)
  ·rcases sb k e with q | q
   ·exact hs (ADV _ q)
   ·omega
 ·rcases s2 g hg with q | q
  ·exact sb g q
  ·exact Or.inr (by omega)
def vV {n:Int} (h:GI w wr s now n mp V L (jn now.toNat n.toNat)) (h0:WH w s now mp V L) (hn:now<=n) (h1:AO n):
 ∃ F',WW wr s n L F'/\Mv w wr (fp s mp V) F':=by
 obtain ⟨Vi,wi,f,sb⟩:=h
 have nb:∀ b,mp=some b->b∉s::bl V:=λb e hm=>by
  rcases h0.mq with ⟨e2,_⟩ | ⟨b2,e2,m⟩
  ·rw [e2] at e;cases e
  ·rw [e2] at e
   cases e
   rcases AD0.1 hm with q | q
   ·exact m.AC h0.wr.st q
   ·exact m.Uu h0.wr q
 refine ⟨_,⟨mp,Vi,⟨wi.congr λr _=>(WE h0.tks hn h1.2 r).symm,WH.Ri h0.mq f (ADW _) nb,h0.srt,h0.uni,h0.tks,h1,h0.ids⟩,rfl⟩,f.mono (ADW _) λk _ hk hm=>hk ?_,λg hg=>?_⟩
 ·rcases AD0.1 hm with e | e
  ·exact AY.2 (Or.inl e)
  ·exact AY.2 (Or.inr (Or.inr e))
 ·rcases AY.1 hg with e | e | e
  ·exact Or.inl (AY.2 (Or.inl e))
  ·exact Or.inl (AY.2 (Or.inr (Or.inl e)))
  ·rcases sb g e with q | q
   ·exact Or.inl (AY.2 (Or.inr (Or.inr q)))
   ·exact Or.inr q
def ABb (n:Int) (c0:w.cell? ⟨s,0,none⟩=some (.int .i64 now)) (hn:n<now\/1152921504606846976<n):
 Calls prog 276 #[.pointer (some ⟨s,0,none⟩),.int .i64 n] w λe w'=>e=.returned (.int .i64 2)/\w'=w:=by
 have C:Hid (∀ w,_):=λw=>EZ n w
 by_cases h1:n<now
 ·clear hn
  go_enter func276,ntmps276
  go_wp2
  go_ret
  exact ⟨rfl,rfl⟩
 ·rw [AHk (λh:AO n=>(by unfold AO at h;omega))] at C
  clear hn
  go_enter func276,ntmps276
  go_wp2_with fail
  refine (C.out _).mono ?_
  rintro e w' ⟨rfl,rfl⟩
  go_wp2
  go_ret
  exact ⟨rfl,rfl⟩
def vW (n:Int) (h:WH w s now mp V L) (h1:now<=n) (h2:n<=1152921504606846976) (hl:L.length<=1000):
 Calls prog 276 #[.pointer (some ⟨s,0,none⟩),.int .i64 n] w λe w'=>e=.returned (.int .i64 0)/\∃ F',WW w' s n L F'/\Mv w w' (fp s mp V) F':=by
 have hT:AO n:=⟨by have:=h.now.1;omega,h2⟩
 have C:Hid (∀ w,_):=λw=>EZ n w
 rw [AHj hT] at C
 have CL:Hid (∀ w,_):=λw=>Pd now n w h.now hT
 have t1:lv now.toNat n.toNat<=20:=Mb (by have:=h.now;unfold AO at this;unfold tk;omega) (by unfold AO at hT;unfold tk;omega)
 have CD:Hid (∀ w,_):=λw=>Pe n (lv now.toNat n.toNat) w hT (by omega)
 have c0:=h.wr.c0
 have z0:=h.wr.st.free 0
 have S0:Hid (GI w (w.setCell ⟨s,0,none⟩ (.int .i64 n)) s now n mp V L 0):=eD h h1
 have ej:jn now.toNat n.toNat=8*lv now.toNat n.toNat+(n.toNat / 8 ^ lv now.toNat n.toNat % 8+1):=by unfold jn;omega
 have d1:n.toNat / 8 ^ lv now.toNat n.toNat % 8<8:=AE8 _ (by decide)
 have ST:Hid (∀ (wr:World) (l k:Nat),(l:Int)<21->(k:Int)<8->8*l+k+1<=jn now.toNat n.toNat->GI w wr s now n mp V L (8*l+k)->_):=λwr l k a b c g=>nT g h.srt h.tks h.now h1 hT hl l k a b rfl c
 have FI:Hid (∀ wr:World,GI w wr s now n mp V L (jn now.toNat n.toNat)->_):=λwr g=>vV g h h1 hT
 rw [ej] at ST FI
 generalize n.toNat / 8 ^ lv now.toNat n.toNat % 8=dg at *
 generalize lv now.toNat n.toNat=tp at *
 have t2:(tp:Int)<=20:=by omega
 have d2:(dg:Int)<8:=by omega
 have h3:¬ n<now:=by omega
 clear ej h hT hl t1 d1 h1 h2
 go_enter func276,ntmps276
 go_wp2_with fail
 refine (C.out _).mono ?_
 rintro e w' ⟨rfl,rfl⟩
 go_wp2_with fail
 refine (CL.out _).mono ?_
 rintro e w2 ⟨rfl,rfl⟩
 go_wp2_with fail
 go_loopw [33] (λi wr=>∃ l:Nat,(l:Int)<=tp/\i=.int .i64 l/\Hid (GI w2 wr s now n mp V L (8*l))) (λi _=>tp-(intOf i).toNat)
 case atStart=>exact ⟨0,by omega,rfl,S0⟩
 case round=>
  obtain ⟨l,hl,rfl,S⟩:=hrel
  by_cases h:(l:Int)<tp
  ·go_wp2_with fail
   obtain ⟨wo,rfl⟩:∃ wo,wo=wr:=⟨_,rfl⟩
   go_loopw [36] (λi wr=>∃ k:Nat,(k:Int)<=8/\i=.int .i64 k/\Hid (GI w2 wr s now n mp V L (8*l+k))) (λi _=>8-(intOf i).toNat)
   case atStart=>exact ⟨0,by omega,rfl,S⟩
   case round=>
    obtain ⟨k,hk,rfl,S2⟩:=hrel
    by_cases h5:(k:Int)<8
    ·have C5:Hid (∀ _:Unit,_):=λ_=>ST.out wr l k (by omega) h5 (by omega) S2.out
     clear S2
     go_wp2_with fail
     refine (C5.out ()).mono ?_
     rintro e w5 ⟨rfl,g5⟩
     have G5:Hid (GI w2 w5 s now n mp V L (8*l+(k+1))):=g5
     clear g5
     go_wp2
     go_roundw
     case rel=>exact ⟨k+1,by omega,by go_num,G5⟩
     case measure=>simp [intOf];omega
    ·obtain rfl:k=8:=by omega
     have G5:Hid (GI w2 wr s now n mp V L (8*(l+1))):=S2.out
     clear S2
     go_wp2
     go_roundw
     case rel=>exact ⟨l+1,by omega,by go_num,G5⟩
     case measure=>simp [intOf];omega
  ·obtain rfl:l=tp:=by omega
   clear h hl
   go_wp2_with fail
   refine (CD.out _).mono ?_
   rintro e w5 ⟨rfl,rfl⟩
   go_wp2_with fail
   obtain ⟨wo,rfl⟩:∃ wo,wo=w5:=⟨_,rfl⟩
   go_loopw [49] (λi wr=>∃ k:Nat,(k:Int)<=(dg:Int)+1/\i=.int .i64 k/\Hid (GI w2 wr s now n mp V L (8*l+k))) (λi _=>dg+1-(intOf i).toNat)
   case atStart=>exact ⟨0,by omega,rfl,S⟩
   case round=>
    obtain ⟨k,hk,rfl,S2⟩:=hrel
    by_cases h5:(k:Int)<(dg:Int)+1
    ·have C5:Hid (∀ _:Unit,_):=λ_=>ST.out wr l k (by omega) (by omega) (by omega) S2.out
     clear S2
     go_wp2_with fail
     refine (C5.out ()).mono ?_
     rintro e w5 ⟨rfl,g5⟩
     have G5:Hid (GI w2 w5 s now n mp V L (8*l+(k+1))):=g5
     clear g5
     go_wp2
     go_roundw
     case rel=>exact ⟨k+1,by omega,by go_num,G5⟩
     case measure=>simp [intOf];omega
    ·obtain rfl:k=dg+1:=by omega
     have G5:Hid (∃ F',_):=FI.out wr S2.out
     clear S2
     go_wp2
     go_ret
     exact ⟨rfl,G5.out⟩
def Yp (n:Int) (h:WW w s now L F) (hl:L.length<=1000):
 Calls prog 276 #[.pointer (some ⟨s,0,none⟩),.int .i64 n] w λe w'=>e=.returned (.int .i64 (M6 now n))/\∃ F',WW w' s (M7 now n) L F'/\Mv w w' F F':=by
 unfold M6 M7
 obtain ⟨mp,V,h,rfl⟩:=h
 by_cases c:n<now\/1152921504606846976<n
 ·rw [AHi c,AHi c]
  refine (ABb n h.wr.c0 c).mono ?_
  rintro e w' ⟨rfl,rfl⟩
  exact ⟨rfl,_,⟨_,_,h,rfl⟩,Mv.refl _ _⟩
 ·rw [AHh c,AHh c]
  exact vW n h (by omega) (by omega) hl
def ids (L:List It):List Int:=L.map (·.2)
def GP (now:Int) (L:List It):List It:=L.filter λx=>decide (x.1<=now)
def Uw (h:WW w s now L F):
 Calls prog 177 #[.pointer (some ⟨s,0,none⟩)] w λe w'=>e=.returned (.int .i64 now)/\w'=w:=by
 obtain ⟨mp,V,h,rfl⟩:=h
 have c0:=h.wr.c0
 clear h
 go_enter func177,ntmps177
 go_wp2
 go_ret
 exact ⟨rfl,rfl⟩
def DM (L:List It) (id:Int):Int:=(wn L id).getD 0
def Ct (L:List It) (id:Int):Bool:=(wn L id).isSome
def eE (id:Int) (hi:(Lit.int .i64 id).wf=true) (h:WW w s now L F):
 Calls prog 303 #[.pointer (some ⟨s,0,none⟩),.int .i64 id] w λe w'=>e=.returned (.tuple #[.int .i64 (DM L id),.bool (Ct L id)])/\w'=w:=by
 obtain ⟨mp,V,h,rfl⟩:=h
 have c1:=h.wr.c1
 have l:(Instr.lookup 229 (.map mp) (.int .i64 id) true).run prog w=.ok (.tuple #[.int .i64 (DM L id),.bool (Ct L id)]) w:=by
  rcases h.mq with ⟨e,e2⟩ | ⟨mb,e,m⟩
  ·rw [e,e2]
   exact Od (tm:=229) underlying229 Gs w hi
  ·rw [e]
   exact DH (tm:=229) underlying2 underlying229 Gs m hi
 generalize DM L id=a at *
 generalize Ct L id=b at *
 clear h hi
 go_enter func303,ntmps303
 go_wp2
 go_ret2
 exact ⟨rfl,rfl⟩
def eF (L:List It) (h:L[i]?=some x):ids (L.take (i+1))=ids (L.take i)++[x.2]:=by
 obtain ⟨hl,e⟩:=ADc.1 h
 unfold ids
 rw [AE3 hl,e,AEg]
 rfl
def LK {w0:World} {G:List Int} (ho:Own 299 w0 (.slice a L.length cap) L) (g:Gt w0 w v G) (hl:G.length+L.length<=2900):
 Calls prog 308 #[v,.slice a L.length cap] w λe w'=>∃ v',e=.returned v'/\Gt w0 w' v' (G++ids L):=by
 obtain ⟨i0,hi,hz0,hz1,hz2⟩:=info_parts Tryz.Dw
 obtain ⟨p,c,rfl⟩:=An g.own
 have ST:Hid (∀ (wr:World) (i:Nat),Below w0.heap.size w0 wr->i<L.length->∃ (q:Nat) (x:It),a=some ⟨q,0,none⟩/\wr.cell? ⟨q,i*2,none⟩=some (.int .i64 x.2)/\wr.cell? ⟨q,i*2+1,none⟩=some (.int .i64 x.1)/\Hid (G++ids (L.take (i+1))=(G++ids (L.take i))++[x.2])):=λwr i hb hi=>by
  obtain ⟨q,x,e,hq,hx,h1,h2⟩:=M0 ho hi
  refine ⟨q,x,e,?_,?_,?_⟩
  ·rw [hb.cell (p:=⟨q,i*2,none⟩) hq];exact h1
  ·rw [hb.cell (p:=⟨q,i*2+1,none⟩) hq];exact h2
  ·show G++ids (L.take (i+1))=(G++ids (L.take i))++[x.2]
   rw [eF L hx,AEs]
 have HE:Hid (G++ids (L.take L.length)=G++ids L):=by
  show G++ids (L.take L.length)=G++ids L
  rw [AEV]
 have HL:Hid (∀ i,(G++ids (L.take i)).length<=2900):=λi=>by
  unfold ids
  simp
  omega
 obtain ⟨H,hH⟩:∃ H:Nat->List Int,∀ i,H i=G++ids (L.take i):=⟨_,λ_=>rfl⟩
 have H0:Gt w0 w (.slice p G.length c) (H 0):=by
  rw [hH]
  simpa [ids] using g
 simp only [<- hH] at ST HE HL
 obtain ⟨E,hE⟩:∃ E,E=G++ids L:=⟨_,rfl⟩
 rw [<- hE] at HE ⊢
 have gl:(G.length:Int)<=2900:=by omega
 generalize G.length=m at *
 generalize L.length=n at *
 have nl:(n:Int)<=2900:=by omega
 clear ho g hl hH hE
 go_enter func308,ntmps308
 go_wp2
 go_loopw [0,9] (λv i wr=>∃ k:Nat,(k:Int)<=n/\i=.int .i64 k/\Gt w0 wr v (H k)) (λ_ i _=>n-(intOf i).toNat)
 case atStart=>exact ⟨0,by omega,rfl,H0⟩
 case round=>
  clear H0
  obtain ⟨k,hk,rfl,gt⟩:=hrel
  by_cases h:(k:Int)<n
  ·obtain ⟨q,x,rfl,k1,k2,HS⟩:=ST.out wr k gt.bel (by omega)
   have s:Hid (H k++[x.2]=H (k+1)):=HS.out.symm
   have hgl:(((H k).length:Nat):Int)<=2900:=by have:=HL.out k;omega
   have hsz:=gt.bel.size
   have gb:Gt w0 (wr.alloc (.cells #[.int .i64 x.2,.int .i64 x.1] 299)) u0 (H k):=⟨gt.own.alloc _,gt.bel.alloc hsz _⟩
   have hsz2:w0.heap.size<=(wr.alloc (.cells #[.int .i64 x.2,.int .i64 x.1] 299)).heap.size:=gb.bel.size
   clear HS gt
   go_wp2_with (at_builtin;refine wpList_append_own _ rfl _ _ 122 rfl w0.heap.size 3 i0 (.int .i64 0) 1 8 underlying122 hi hz0 hz1 hz2 rfl (by decide) _ _ _ rfl (gb.own.alloc _) ⟨_,0,none⟩ 1 1 [.int .i64 x.2] rfl rfl ?c1 ?c2 ?c3 ?c4 ?c5 ?_)
   case c1=>
    intro j u hj
    match j,hj with
    | 0,hj=>simp at hj;subst hj;simp [Addr.add]
   case c2=>intro u hu;simp at hu;subst hu;rfl
   case c3=>unfold maxLen;omega
   case c4=>omega
   case c5=>simp;omega
   intro v' w2 hown' hgrow _
   have G3:=Xr gb hown' hgrow
   rw [s.out] at G3
   clear hown' hgrow gb
   go_wp2
   go_roundw
   case rel=>exact ⟨k+1,by omega,by go_num,G3⟩
   case measure=>simp [intOf];omega
  ·obtain rfl:k=n:=by omega
   rw [HE.out] at gt
   go_wp2
   go_ret
   exact ⟨_,rfl,gt⟩
def Ux (h:WW w s now L F) (hl:L.length<=1000):
 Calls prog 252 #[.pointer (some ⟨s,0,none⟩)] w λe w'=>∃ v,e=.returned v/\Gt w w' v (ids (GP now L)):=by
 obtain ⟨mp,V,h,rfl⟩:=h
 have c2:=h.wr.cr (r:=0) (by decide)
 obtain ⟨a,cap,ev⟩:=h.wr.shape (r:=0) (by decide)
 have o:=h.wr.own 0 (by decide)
 rw [ev] at c2 o
 rw [vJ h.tks h.now.1] at c2 o
 have C:Hid (∀ _:Unit,_):=λ_=>LK o (Qs w) (by have:=ADq (λx:It=>decide (x.1<=now)) L;simp only [AEh];omega)
 rw [ADv] at C
 unfold GP
 generalize L.filter (λx:It=>decide (x.1<=now))=D at *
 generalize D.length=n at *
 clear h o ev hl
 go_enter func252,ntmps252
 go_wp2_with fail
 refine (C.out ()).mono ?_
 rintro e w' ⟨v,rfl,g⟩
 obtain ⟨p,c,rfl⟩:=An g.own
 have GG:Hid (Gt w w' _ _):=g
 clear g
 go_wp2
 go_ret
 exact ⟨_,rfl,GG.out⟩
def fst (now:Int) (L:List It) (j:Nat):List It:=(List.range j).flatMap (rl (rm now) L)
def L6 (now:Int) (L:List It) (j:Nat):fst now L (j+1)=fst now L j++rl (rm now) L j:=by
 unfold fst
 rw [AEK,AES]
 simp
def nU (h:BV L) (t:Hw L) (hn:AO now) (j:Nat):(fst now L j).length<=L.length:=by
 unfold fst
 rw [Gq _ _ _ (Km h t hn.1 hn.2)]
 exact ADq _ _
def Uy (h:BV L) (t:Hw L) (hn:AO now):fst now L 169=L:=nJ h t hn.1 hn.2
def Ik (h:WW w s now L F) (hl:L.length<=1000):
 Calls prog 302 #[.pointer (some ⟨s,0,none⟩)] w λe w'=>∃ v,e=.returned v/\Gt w w' v (ids L):=by
 obtain ⟨mp,V,h,rfl⟩:=h
 obtain ⟨G,hG⟩:∃ G:Nat->List Int,∀ j,G j=ids (fst now L j):=⟨_,λ_=>rfl⟩
 have G0:Hid (Gt w w (.slice none 0 0) (G 0)):=by
  rw [hG]
  exact Qs w
 have GE:Hid (G 169=ids L):=by
  rw [hG,Uy h.srt h.tks h.now]
  exact rfl
 have CN:Hid (∀ (wr:World) (v:Value) (j:Nat),j<169->Gt w wr v (G j)->∃ a n cap,wr.cell? ⟨s,2+j,none⟩=some (.slice a n cap)/\Calls prog 308 #[v,.slice a n cap] wr λe w'=>∃ v',e=.returned v'/\Gt w w' v' (G (j+1))):=λwr v j hj g=>by
  obtain ⟨a,cap,ev⟩:=h.wr.shape hj
  have o:=h.wr.own j hj
  have c:=(h.wr.below g.bel).cr hj
  rw [ev] at o c
  refine ⟨a,_,cap,c,?_⟩
  have:=LK (v:=v) o g (by have:=nU h.srt h.tks h.now j;have:=Hx (rm now) L j;rw [hG];unfold ids;rw [ADz];omega)
  rw [show G (j+1)=G j++ids (rl (rm now) L j) by rw [hG,hG,L6];unfold ids;rw [AEg]]
  exact this
 rw [<- GE.out]
 clear h hl hG GE
 obtain ⟨a0,n0,p0,c0,C0⟩:=CN.out w _ 0 (by decide) G0.out
 have D0:Hid (∀ _:Unit,_):=λ_=>C0
 clear C0 G0
 go_enter func302,ntmps302
 go_wp2_with fail
 refine (D0.out ()).mono ?_
 rintro e w1 ⟨v,rfl,g⟩
 obtain ⟨p,c,ev⟩:=An g.own
 have G1:Hid (Gt w w1 v (G 1)):=g
 clear g
 subst ev
 go_wp2_with fail
 go_loopw [3,13] (λv i wr=>∃ l:Nat,(l:Int)<=21/\i=.int .i64 l/\Hid (Gt w wr v (G (1+8*l)))) (λ_ i _=>21-(intOf i).toNat)
 case atStart=>exact ⟨0,by omega,rfl,G1⟩
 case round=>
  obtain ⟨l,hl,rfl,S⟩:=hrel
  obtain ⟨q,cq,e3⟩:=An S.out.own
  by_cases h:(l:Int)<21
  ·go_wp2_with fail
   obtain ⟨wo,rfl⟩:∃ wo,wo=wr:=⟨_,rfl⟩
   go_loopw [3,16] (λv i wr=>∃ k:Nat,(k:Int)<=8/\i=.int .i64 k/\Hid (Gt w wr v (G (1+8*l+k)))) (λ_ i _=>8-(intOf i).toNat)
   case atStart=>exact ⟨0,by omega,rfl,S⟩
   case round=>
    clear e3
    obtain ⟨k,hk,rfl,S2⟩:=hrel
    by_cases h5:(k:Int)<8
    ·obtain ⟨a5,n5,p5,c5,C5⟩:=CN.out wr _ (1+8*l+k) (by omega) S2.out
     rw [show 2+(1+8*l+k)=3+l*8+k by omega] at c5
     obtain ⟨q5,cq5,e5⟩:=An S2.out.own
     have D5:Hid (∀ _:Unit,_):=λ_=>C5
     clear C5 S2 S
     subst e5
     go_wp2_with fail
     refine (D5.out ()).mono ?_
     rintro e w5 ⟨v5,rfl,g5⟩
     obtain ⟨p6,c6,e6⟩:=An g5.own
     have G6:Hid (Gt w w5 v5 (G (1+8*l+(k+1)))):=g5
     clear g5
     subst e6
     go_wp2
     go_roundw
     case rel=>exact ⟨k+1,by omega,by go_num,G6⟩
     case measure=>simp [intOf];omega
    ·obtain rfl:k=8:=by omega
     have G6:Hid (Gt w wr _ (G (1+8*(l+1)))):=S2.out
     clear S2 S
     go_wp2
     go_roundw
     case rel=>exact ⟨l+1,by omega,by go_num,G6⟩
     case measure=>simp [intOf];omega
  ·obtain rfl:l=21:=by omega
   have G6:Hid (Gt w wr _ (G 169)):=S.out
   clear S
   subst e3
   go_wp2
   go_ret
   exact ⟨_,rfl,G6.out⟩
def M8 (L:List It):Int:=match L with | []=>0 | x::_=>x.1
def CV (L:List It):Int:=match L with | []=>12 | _::_=>0
def ABc (h:BV L) (t:Hw L) (hn:AO now) (h0:fst now L j=[]) {T:List It} (hx:rl (rm now) L j=x::T):M8 L=x.1/\CV L=0:=by
 have m:=Km h t hn.1 hn.2
 have e1:fst now L (j+1)=x::T:=by rw [L6,h0,hx];rfl
 unfold fst at e1
 rw [Gq _ _ _ m] at e1
 cases L with
 | nil=>simp at e1
 | cons z L=>
  have hm:x∈(z::L).filter (λy=>decide (rm now y<j+1)):=by rw [e1];exact ADX
  obtain ⟨q1,q2⟩:=AD9.1 hm
  have q2:rm now x<j+1:=by simpa using q2
  have q3:rm now z<=rm now x:=by
   rcases AD0.1 q1 with e | e
   ·rw [e];exact ADW _
   ·exact (AER.1 m).1 x e
  rw [AEM (by simp;omega)] at e1
  have e2:z=x:=by
   have:=AHo List.head? e1
   simpa using this
  subst e2
  exact ⟨rfl,rfl⟩
def Iw (h:WW w s now L F) (hl:L.length<=1000):
 Calls prog 176 #[.pointer (some ⟨s,0,none⟩)] w λe w'=>e=.returned (.tuple #[.int .i64 (M8 L),.int .i64 (CV L)])/\w'=w:=by
 obtain ⟨mp,V,h,rfl⟩:=h
 obtain ⟨S,hS⟩:∃ S:Nat->Value,∀ j,S j=V.getD j nv:=⟨_,λ_=>rfl⟩
 have CS:Hid (∀ j,j<169->w.cell? ⟨s,2+j,none⟩=some (S j)):=λj hj=>by rw [hS];exact h.wr.cr hj
 obtain ⟨E,hE⟩:∃ E:Nat->Prop,∀ j,E j=(fst now L j=[]):=⟨_,λ_=>rfl⟩
 have E0:Hid (E 0):=by rw [hE];exact rfl
 obtain ⟨rn,hrn⟩:∃ rn,rn=M8 L:=⟨_,rfl⟩
 obtain ⟨re,hre⟩:∃ re,re=CV L:=⟨_,rfl⟩
 rw [<- hrn,<- hre]
 have CE:Hid (∀ j,j<169->E j->(∃ a n cap,S j=.slice a n cap/\(n:Int)<=1000/\0<(n:Int)/\re=0/\∃ g,a=some ⟨g,0,none⟩/\w.cell? ⟨g,1,none⟩=some (.int .i64 rn))\/(∃ a cap,S j=.slice a 0 cap/\E (j+1))):=λj hj ej=>by
  rw [hE] at ej
  obtain ⟨a,cap,ev⟩:=h.wr.shape hj
  have o:=h.wr.own j hj
  rw [ev] at o
  rw [hS,hE,ev]
  cases q:rl (rm now) L j with
  | nil=>exact Or.inr ⟨a,cap,rfl,by rw [L6,ej,q];rfl⟩
  | cons x T=>
   obtain ⟨n1,n2⟩:=ABc h.srt h.tks h.now ej q
   have hll:=Hx (rm now) L j
   obtain ⟨g,y,e,hg,hy,h1,h2⟩:=M0 o (i:=0) (by rw [q];simp)
   rw [q] at hy hll
   simp at hy
   subst hy
   refine Or.inl ⟨a,_,cap,rfl,by simp at hll ⊢;omega,by simp,by rw [hre];exact n2,g,e,?_⟩
   rw [hrn,n1]
   simpa using h2
 have EE:Hid (E 169->rn=0/\re=12):=λe=>by
  rw [hE,Uy h.srt h.tks h.now] at e
  rw [hrn,hre,e]
  exact ⟨rfl,rfl⟩
 have c2:=CS.out 0 (by decide)
 clear h hl hS hE hrn hre
 go_enter func176,ntmps176
 go_wp2_with fail
 go_step3
 go_wp2_with fail
 go_step3
 go_wp2_with fail
 go_loopw [4,13] (λv i wr=>wr=w/\∃ l:Nat,(l:Int)<=21/\i=.int .i64 l/\v=S (8*l)/\Hid (E (8*l))) (λ_ i _=>21-(intOf i).toNat)
 case atStart=>exact ⟨rfl,0,by omega,rfl,rfl,E0⟩
 case round=>
  obtain ⟨rfl,l,hl,rfl,rfl,e0⟩:=hrel
  clear c2
  by_cases h:(l:Int)<21
  ·go_wp2_with fail
   obtain ⟨wo,rfl⟩:∃ wo,wo=wr:=⟨_,rfl⟩
   go_loopw [4,16] (λv i wr=>wr=wo/\∃ k:Nat,(k:Int)<=8/\i=.int .i64 k/\v=S (8*l+k)/\Hid (E (8*l+k))) (λ_ i _=>8-(intOf i).toNat)
   case atStart=>exact ⟨rfl,0,by omega,rfl,rfl,e0⟩
   case round=>
    obtain ⟨rfl,k,hk,rfl,rfl,e1⟩:=hrel
    clear e0
    by_cases h5:(k:Int)<8
    ·rcases CE.out (8*l+k) (by omega) e1.out with ⟨a,n,cap,eS,n1,n2,rfl,g,rfl,cg⟩ | ⟨a,cap,eS,e2⟩
     ·rw [eS]
      have n3:((n:Int)==0)=false:=by rw [AHl];omega
      clear e1 eS
      go_wp2
      try rw [Exit.noGoto_ret]
      go_ret2
      exact ⟨rfl,rfl⟩
     ·rw [eS]
      have c5:=CS.out (8*l+k+1) (by omega)
      rw [show 2+(8*l+k+1)=3+l*8+k by omega] at c5
      have E2:Hid (E (8*l+k+1)):=e2
      clear e1 eS e2
      go_wp2
      go_roundw
      case rel=>exact ⟨trivial,k+1,by omega,by go_num,rfl,E2⟩
      case measure=>simp [intOf];omega
    ·obtain rfl:k=8:=by omega
     have E2:Hid (E (8*(l+1))):=e1.out
     go_wp2
     go_roundw
     case rel=>exact ⟨trivial,l+1,by omega,by go_num,rfl,E2⟩
     case measure=>simp [intOf];omega
  ·obtain rfl:l=21:=by omega
   rcases CE.out 168 (by decide) e0.out with ⟨a,n,cap,eS,n1,n2,rfl,g,rfl,cg⟩ | ⟨a,cap,eS,e2⟩
   ·rw [show S (8*21)=_ from eS]
    have n3:((n:Int)==0)=false:=by rw [AHl];omega
    clear e0 eS
    go_wp2
    try rw [Exit.noGoto_ret]
    go_ret2
    exact ⟨rfl,rfl⟩
   ·rw [show S (8*21)=_ from eS]
    obtain ⟨rfl,rfl⟩:=EE.out e2
    clear e0 eS e2
    go_wp2
    try rw [Exit.noGoto_ret]
    go_ret2
    exact ⟨rfl,rfl⟩
def Yq (w:World):Calls prog 176 #[.pointer none] w λe w'=>e=.returned (.tuple #[.int .i64 0,.int .i64 1])/\w'=w:=by
 go_enter func176,ntmps176
 go_wp2
 go_step3
 go_wp2
 try rw [Exit.noGoto_ret]
 go_ret2
 exact ⟨rfl,rfl⟩
end Go.Proofs.YtdlhlfpigcgapaaGreatDoor.Tim
namespace Go.Proofs.YtdlhlfpigcgapaaGreatDoor.Zm
open Go.Proofs.Tryz
open Slt Tim
open Wm Sl
variable {L:List It} {id:Int} {c n:Nat} {O P:Nat->Bool} {x:It}
abbrev Ks:=Nat->List It
def up (K:Ks) (c:Nat) (X:List It):Ks:=λj=>if j=c then X else K j
def AX (K:Ks) (c:Nat) (X:List It):up K c X c=X:=AHi rfl
def AL {K:Ks} {j:Nat} (X:List It) (h:j≠c):up K c X j=K j:=AHh h
def has (L:List It) (id:Int):Bool:=(wn L id).isSome
def nV (h:has L id=true):∃ d,(d,id)∈L:=by
 unfold has at h
 cases e:wn L id with
 | none=>rw [e] at h;cases h
 | some d=>exact ⟨d,Mr e⟩
def D' (hx:x∈L):has L x.2=true:=by
 unfold has
 cases e:wn L x.2 with
 | none=>exact absurd rfl (Dm.1 e x hx)
 | some d=>rfl
def Rj (h:has L id=false):∀ y∈L,y.2≠id:=by
 intro y hy e
 have:=D' hy
 rw [e,h] at this
 cases this
def nW (u:Cw L) (hx:has L x.2=false) (i:Int):has (ins x L) i=if i=x.2 then true else has L i:=by
 unfold has
 rw [Yk u (Rj hx)]
 split <;> rfl
def nX (u:Cw L) (j i:Int):has (Av j L) i=if i=j then false else has L i:=by
 unfold has
 rw [Yl u]
 split <;> rfl
def AG (n:Nat) (K:Ks) (id:Int):Option Nat:=(List.range n).find? λc=>has (K c) id
structure Al (n:Nat) (K:Ks):Prop where
 uni:∀ c,c<n->Cw (K c)
 srt:∀ c,c<n->BV (K c)
 one:∀ c d,c<n->d<n->∀ id,has (K c) id=true->has (K d) id=true->c=d
 rg:∀ c,c<n->∀ id,has (K c) id=true->1<=id/\id<=48
def Bn {K:Ks} (h:AG n K id=some c):c<n/\has (K c) id=true:=by
 have h1:=AEo h
 have h2:=AEG h
 simp at h1 h2
 exact ⟨h2,h1⟩
def At {K:Ks}:AG n K id=none↔∀ c,c<n->has (K c) id=false:=by
 unfold AG
 rw [ADw]
 simp
def Ah {K:Ks} (h:Al n K):AG n K id=some c↔c<n/\has (K c) id=true:=by
 refine ⟨Bn,λ⟨hc,hi⟩=>?_⟩
 cases e:AG n K id with
 | none=>rw [At.1 e c hc] at hi;cases hi
 | some d=>
  obtain ⟨h1,h2⟩:=Bn e
  rw [h.one d c h1 hc id h2 hi]
def M9 (n:Nat):Al n λ_=>[]:=
 ⟨λ_ _=>List.Pairwise.nil,λ_ _=>List.Pairwise.nil,λ_ _ _ _ id h=>by simp [has,wn] at h,λ_ _ id h=>by simp [has,wn] at h⟩
def H4 (n:Nat) (id:Int):AG n (λ_=>[]) id=none:=At.2 λc _=>by simp [has,wn]
def Yr {K:Ks} (h:Al n K) (hc:c<n) (d:Int) (hn:AG n K id=none) (h1:1<=id) (h2:id<=48):
 Al n (up K c (ins (d,id) (K c)))/\∀ j,AG n (up K c (ins (d,id) (K c))) j=if j=id then some c else AG n K j:=by
 have no:=At.1 hn
 have m:∀ e j,e<n->has (up K c (ins (d,id) (K c)) e) j=if e=c/\j=id then true else has (K e) j:=λe j he=>by
  by_cases q:e=c
  ·subst q
   rw [AX,nW (h.uni e he) (no e he)]
   by_cases r:j=id
   ·rw [AHi r,AHi ⟨rfl,r⟩]
   ·rw [AHh r,AHh (λz=>r z.2)]
  ·rw [AL _ q,AHh (λz=>q z.1)]
 have A:Al n (up K c (ins (d,id) (K c))):=by
  refine ⟨λe he=>?_,λe he=>?_,λe f he hf j g1 g2=>?_,λe he j g=>?_⟩
  ·by_cases q:e=c
   ·subst q
    rw [AX]
    exact OZ (h.uni e he) (Rj (no e he))
   ·rw [AL _ q];exact h.uni e he
  ·by_cases q:e=c
   ·subst q
    rw [AX]
    exact Up (h.srt e he) _
   ·rw [AL _ q];exact h.srt e he
  ·rw [m e j he] at g1
   rw [m f j hf] at g2
   by_cases r:j=id
   ·subst r
    have k1:e=c:=by
     by_cases q:e=c
     ·exact q
     ·rw [AHh (λz=>q z.1),no e he] at g1;cases g1
    have k2:f=c:=by
     by_cases q:f=c
     ·exact q
     ·rw [AHh (λz=>q z.1),no f hf] at g2;cases g2
    omega
   ·rw [AHh (λz=>r z.2)] at g1 g2
    exact h.one e f he hf j g1 g2
  ·rw [m e j he] at g
   by_cases r:j=id
   ·omega
   ·rw [AHh (λz=>r z.2)] at g
    exact h.rg e he j g
 refine ⟨A,λj=>Option.ext λe=>?_⟩
 rw [Ah A]
 by_cases r:j=id
 ·subst r
  rw [AHi rfl]
  constructor
  ·rintro ⟨he,g⟩
   rw [m e j he] at g
   by_cases q:e=c
   ·rw [q]
   ·rw [AHh (λz=>q z.1),no e he] at g;cases g
  ·intro g
   cases g
   exact ⟨hc,by rw [m c j hc,AHi ⟨rfl,rfl⟩]⟩
 ·rw [AHh r,Ah h]
  constructor
  ·rintro ⟨he,g⟩
   rw [m e j he,AHh (λz=>r z.2)] at g
   exact ⟨he,g⟩
  ·rintro ⟨he,g⟩
   exact ⟨he,by rw [m e j he,AHh (λz=>r z.2)];exact g⟩
def Ys {K:Ks} (h:Al n K) (_:c<n) (hi:AG n K id=some c):
 Al n (up K c (Av id (K c)))/\∀ j,AG n (up K c (Av id (K c))) j=if j=id then none else AG n K j:=by
 have hi2:=(Ah h).1 hi
 have m:∀ e j,e<n->has (up K c (Av id (K c)) e) j=if j=id then false else has (K e) j:=λe j he=>by
  by_cases q:e=c
  ·subst q
   rw [AX,nX (h.uni e he)]
  ·rw [AL _ q]
   by_cases r:j=id
   ·rw [AHi r,r]
    cases g:has (K e) id with
    | false=>rfl
    | true=>exact absurd (h.one e c he hi2.1 id g hi2.2) q
   ·rw [AHh r]
 have A:Al n (up K c (Av id (K c))):=by
  refine ⟨λe he=>?_,λe he=>?_,λe f he hf j g1 g2=>?_,λe he j g=>?_⟩
  ·by_cases q:e=c
   ·subst q
    rw [AX]
    exact Kk (h.uni e he) _
   ·rw [AL _ q];exact h.uni e he
  ·by_cases q:e=c
   ·subst q
    rw [AX]
    exact OY (h.srt e he) _
   ·rw [AL _ q];exact h.srt e he
  ·rw [m e j he] at g1
   rw [m f j hf] at g2
   by_cases r:j=id
   ·rw [AHi r] at g1;cases g1
   ·rw [AHh r] at g1 g2
    exact h.one e f he hf j g1 g2
  ·rw [m e j he] at g
   by_cases r:j=id
   ·rw [AHi r] at g;cases g
   ·rw [AHh r] at g
    exact h.rg e he j g
 refine ⟨A,λj=>Option.ext λe=>?_⟩
 rw [Ah A]
 by_cases r:j=id
 ·rw [AHi r]
  constructor
  ·rintro ⟨he,g⟩
   rw [m e j he,AHi r] at g
   cases g
  ·intro g;cases g
 ·rw [AHh r,Ah h]
  constructor
  ·rintro ⟨he,g⟩
   rw [m e j he,AHh r] at g
   exact ⟨he,g⟩
  ·rintro ⟨he,g⟩
   exact ⟨he,by rw [m e j he,AHh r];exact g⟩
def Yt:∀ (m:Nat) (L:List It),BV L->Cw L->(∀ x∈L,1<=x.2/\x.2<=(m:Int))->L.length<=m
 | 0,L,_,_,h=>by
  cases L with
  | nil=>exact ADW _
  | cons x r=>have:=h x (by simp);omega
 | m+1,L,s,u,h=>by
  have ih:=Yt m (Av ((m:Int)+1) L) (OY s _) (Kk u _) λx hx=>by
   obtain ⟨h1,h2⟩:=Fs.1 hx
   have:=h x h1
   omega
  cases e:has L ((m:Int)+1) with
  | true=>
   obtain ⟨d,hd⟩:=nV e
   have:=Uq s u hd
   simp only at this
   omega
  | false=>
   rw [Ly (Rj e)] at ih
   omega
def Al.len {K:Ks} (h:Al n K) (hc:c<n):(K c).length<=48:=
 Yt 48 (K c) (h.srt c hc) (h.uni c hc) λx hx=>h.rg c hc x.2 (D' hx)
def cq (n:Nat) (K:Ks) (id:Int):Option Int:=(AG n K id).map λc:Nat=>(c:Int)
def oc (n:Nat) (K:Ks) (i:Nat):Bool:=(AG n K (i:Int)).isSome
def Ay (O:Nat->Bool):Nat:=(List.range 48).countP λi=>O (i+1)
def Ey (O:Nat->Bool):Ay O<=48:=by
 have:=List.countP_le_length (p:=λi=>O (i+1)) (l:=List.range 48)
 rw [List.length_range] at this
 exact this
def cp (p q:Nat->Bool) (k:Nat) (h:∀ j,j≠k->p j=q j) (hp:p k=true) (hq:q k=false):∀ N,(List.range N).countP p=(List.range N).countP q+if k<N then 1 else 0
 | 0=>rfl
 | N+1=>by
  have ih:=cp p q k h hp hq N
  rw [AEK,AFa,AFa,ih,AFg,AFg]
  by_cases e:N=k
  ·subst e
   rw [hp,hq]
   simp
  ·rw [h N e]
   generalize (if q N=true then 1 else 0)=z
   by_cases g:k<N
   ·have g2:k<N+1:=by omega
    simp only [AHi g,AHi g2];omega
   ·have g2:¬ k<N+1:=by omega
    simp only [AHh g,AHh g2];omega
def Jm {k:Nat} (h1:1<=k) (h2:k<=48) (h:∀ j,j≠k->P j=O j) (hp:P k=true) (hq:O k=false):Ay P=Ay O+1:=by
 have:=cp (λi=>P (i+1)) (λi=>O (i+1)) (k-1) (λj hj=>h (j+1) (by omega)) (by show P (k-1+1)=true;rw [show k-1+1=k by omega];exact hp) (by show O (k-1+1)=false;rw [show k-1+1=k by omega];exact hq) 48
 rw [AHi (by omega)] at this
 exact this
def nY (h:∀ j,O j=P j):Ay O=Ay P:=by rw [show O=P from funext h]
def Oe {K:Ks}:cq n K id=none↔AG n K id=none:=by
 unfold cq
 rw [Option.map_eq_none_iff]
def Yu (m:Nat) (h:∀ i,1<=i->i<=m->O i=P i):ff m O=ff m P:=by
 unfold ff
 have:∀ l:List Nat,(∀ c∈l,c<m)->l.find? (λi=>!O (i+1))=l.find? (λi=>!P (i+1)):=by
  intro l
  induction l with
  | nil=>intro _;rfl
  | cons a r ih=>
   intro hl
   have:=hl a (by simp)
   rw [AFn,AFn,ih λc hc=>hl c (ADV _ hc),h (a+1) (by omega) (by omega)]
 exact this _ (by simp)
def Uz {m i:Nat} (h:ff m O=some i):i<m/\O (i+1)=false:=by
 have h1:=AEo h
 have h2:=AEG h
 simp at h1 h2
 exact ⟨h2,h1⟩
def AJ (n:Nat) (c:Int):Prop:=0<=c/\c<n
instance (n:Nat) (c:Int):Decidable (AJ n c):=by unfold AJ;exact inferInstance
def vX (n:Nat) (K:Ks) (c:Nat) (d:Int):Ks:=match ff 48 (oc n K) with | some i=>up K c (ins (d,((i+1:Nat):Int)) (K c)) | none=>K
def Yv (n:Nat) (K:Ks) (id:Int):Ks:=match AG n K id with | some c=>up K c (Av id (K c)) | none=>K
def kK (n:Nat) (K:Ks) (id:Int):Int:=if (AG n K id).isSome=true then 0 else 4
def fiN (now:Int) (L:List It):Int:=match GP now L with | []=>0 | x::_=>x.2
def fiE (now:Int) (L:List It):Int:=match GP now L with | []=>12 | _::_=>0
def vY (now:Int) (K:Ks) (c:Nat):Ks:=match GP now (K c) with | []=>K | x::_=>up K c (Av x.2 (K c))
end Go.Proofs.YtdlhlfpigcgapaaGreatDoor.Zm
namespace Go.Proofs.YtdlhlfpigcgapaaGreatDoor.Tim
open Go.Proofs.Tryz
open Slt
open Go.ChangeShapes Go.WideShapes Go.ChangeAt Go.RowKit
open Wm Zm
variable {F:List Nat} {w w':World} {α:Type} {now:Int} {c g n t tb:Nat} {K:Ks}
def EL (f:Nat->α) (c:Nat) (x:α):Nat->α:=λj=>if j=c then x else f j
def Bd (f:Nat->α) (c:Nat) (x:α):EL f c x c=x:=AHi rfl
def Aw {f:Nat->α} {j:Nat} (x:α) (h:j≠c):EL f c x j=f j:=AHh h
structure TB (w:World) (t sb sg tb mb n:Nat) (N:Nat->Int) (S:Nat->Nat) (K:Ks) (G:Nat->List Nat) (W:List Nat) (O:Nat->Bool) (m:Nat) (f:Int->Option Int):Prop where
 st:AB w t [.pointer (some ⟨sb,0,none⟩),.slice (some ⟨tb,0,none⟩) n n,.map (some mb)] 151
 tab:AB w tb ((List.range n).map λc=>.pointer (some ⟨S c,0,none⟩)) 152
 sl:T w sb sg 48 W O
 mp:MQ 3 w mb m f
 ws:∀ c,c<n->WW w (S c) (N c) (K c) (G c)
 dis:∀ c d,c<n->d<n->c≠d->∀ g∈G c,g∉G d
 nb:∀ c,c<n->∀ g∈G c,g∉[t,sb,sg,tb,mb]
 n1:1<=n
 n2:n<=64
def BY (t sb sg tb mb n:Nat) (G:Nat->List Nat):List Nat:=[t,sb,sg,tb,mb]++(List.range n).flatMap G
def Bo {sb sg mb:Nat} {G:Nat->List Nat}:g∈BY t sb sg tb mb n G↔g∈[t,sb,sg,tb,mb]\/∃ c,c<n/\g∈G c:=by
 unfold BY
 rw [ADi,AEX]
 simp
section
variable {w:World} {t sb sg tb mb n:Nat} {N:Nat->Int} {S:Nat->Nat} {K:Ks} {G:Nat->List Nat} {W:List Nat} {O:Nat->Bool} {m:Nat} {f:Int->Option Int}
def TB.c0 (h:TB w t sb sg tb mb n N S K G W O m f):w.cell? ⟨t,0,none⟩=some (.pointer (some ⟨sb,0,none⟩)):=h.st.cell 0
def TB.c1 (h:TB w t sb sg tb mb n N S K G W O m f):w.cell? ⟨t,1,none⟩=some (.slice (some ⟨tb,0,none⟩) n n):=h.st.cell 1
def TB.c2 (h:TB w t sb sg tb mb n N S K G W O m f):w.cell? ⟨t,2,none⟩=some (.map (some mb)):=h.st.cell 2
def TB.cw (h:TB w t sb sg tb mb n N S K G W O m f) (hc:c<n):w.cell? ⟨tb,c,none⟩=some (.pointer (some ⟨S c,0,none⟩)):=by
 rw [h.tab.cell c,ADn,AET hc]
 rfl
def TB.lt (h:TB w t sb sg tb mb n N S K G W O m f) {g:Nat} (hg:g∈[t,sb,sg,tb,mb]):g<w.heap.size:=by
 simp only [AD0,ADt,or_false] at hg
 rcases hg with rfl | rfl | rfl | rfl | rfl
 ·exact h.st.lt
 ·exact h.sl.sb.lt
 ·exact h.sl.sg.lt
 ·exact h.tab.lt
 ·exact h.mp.lt
def TB.hi (h:TB w t sb sg tb mb n N S K G W O m f) (hg:g∈BY t sb sg tb mb n G):g<w.heap.size:=by
 rcases Bo.1 hg with q | ⟨c,hc,q⟩
 ·exact h.lt q
 ·exact (h.ws c hc).lt q
def TB.AA {B:Nat} {Z:List Nat} {w':World} (h:TB w t sb sg tb mb n N S K G W O m f) (k:Fr B Z w w') (hB:w.heap.size<=B) (hZ:∀ g∈BY t sb sg tb mb n G,g∉Z):TB w' t sb sg tb mb n N S K G W O m f:=by
 have z:∀ g∈[t,sb,sg,tb,mb],g<B/\g∉Z:=λg hg=>⟨AD7 (h.lt hg) hB,hZ g (Bo.2 (Or.inl hg))⟩
 refine ⟨h.st.AA k (z t (by simp)).1 (z t (by simp)).2,h.tab.AA k (z tb (by simp)).1 (z tb (by simp)).2,h.sl.AA k ⟨(z sb (by simp)).1,(z sg (by simp)).1⟩ ⟨(z sb (by simp)).2,(z sg (by simp)).2⟩,h.mp.AA k (z mb (by simp)).1 (z mb (by simp)).2,λc hc=>(h.ws c hc).AA k hB λg hg=>hZ g (Bo.2 (Or.inr ⟨c,hc,hg⟩)),h.dis,h.nb,h.n1,h.n2⟩
def TB.Ko (h:TB w t sb sg tb mb n N S K G W O m f) (hc:c<n) {X:List It} {F':List Nat} (q:WW w' (S c) now X F') (v:Mv w w' (G c) F'):
 TB w' t sb sg tb mb n (EL N c now) S (up K c X) (EL G c F') W O m f/\Mv w w' (BY t sb sg tb mb n G) (BY t sb sg tb mb n (EL G c F')):=by
 have z:∀ g∈[t,sb,sg,tb,mb],g<w.heap.size/\g∉G c:=λg hg=>⟨h.lt hg,λe=>h.nb c hc g e hg⟩
 refine ⟨⟨h.st.AA v.fr (z t (by simp)).1 (z t (by simp)).2,h.tab.AA v.fr (z tb (by simp)).1 (z tb (by simp)).2,h.sl.AA v.fr ⟨(z sb (by simp)).1,(z sg (by simp)).1⟩ ⟨(z sb (by simp)).2,(z sg (by simp)).2⟩,h.mp.AA v.fr (z mb (by simp)).1 (z mb (by simp)).2,λd hd=>?_,λd e hd he hn g hg=>?_,λd hd g hg=>?_,h.n1,h.n2⟩,?_,λg hg=>?_⟩
 ·by_cases e:d=c
  ·subst e
   rw [Bd,Bd,AX]
   exact q
  ·rw [Aw _ e,Aw _ e,AL _ e]
   exact (h.ws d hd).AA v.fr (ADW _) λg hg hg2=>h.dis d c hd hc e g hg hg2
 ·have key:∀ d,d<n->d≠c->∀ g∈G d,g∉F':=λd hd hn g hg hg2=>by
   rcases v.sub g hg2 with r | r
   ·exact h.dis d c hd hc hn g hg r
   ·have:=(h.ws d hd).lt hg;omega
  by_cases e1:d=c
  ·subst e1
   rw [Bd] at hg
   rw [Aw _ (λr=>hn r.symm)]
   exact λhg2=>key e he (λr=>hn r.symm) g hg2 hg
  ·rw [Aw _ e1] at hg
   by_cases e2:e=c
   ·subst e2
    rw [Bd]
    exact key d hd e1 g hg
   ·rw [Aw _ e2]
    exact h.dis d e hd he hn g hg
 ·by_cases e:d=c
  ·subst e
   rw [Bd] at hg
   rcases v.sub g hg with r | r
   ·exact h.nb d hd g r
   ·exact λhg2=>by have:=h.lt hg2;omega
  ·rw [Aw _ e] at hg
   exact h.nb d hd g hg
 ·exact v.fr.mono (ADW _) λk _ hk hk2=>hk (Bo.2 (Or.inr ⟨c,hc,hk2⟩))
 ·rcases Bo.1 hg with r | ⟨d,hd,r⟩
  ·exact Or.inl (Bo.2 (Or.inl r))
  ·by_cases e:d=c
   ·subst e
    rw [Bd] at r
    rcases v.sub g r with r | r
    ·exact Or.inl (Bo.2 (Or.inr ⟨d,hd,r⟩))
    ·exact Or.inr r
   ·rw [Aw _ e] at r
    exact Or.inl (Bo.2 (Or.inr ⟨d,hd,r⟩))
def TB.slot (h:TB w t sb sg tb mb n N S K G W O m f) {W':List Nat} {O':Nat->Bool} (q:T w' sb sg 48 W' O') (v:Fr w.heap.size [sb,sg] w w'):
 TB w' t sb sg tb mb n N S K G W' O' m f/\Mv w w' (BY t sb sg tb mb n G) (BY t sb sg tb mb n G):=by
 have n1:t≠sb:=h.st.ne h.sl.sb (by decide)
 have n2:t≠sg:=h.st.ne h.sl.sg (by decide)
 have n3:tb≠sb:=h.tab.ne h.sl.sb (by decide)
 have n4:tb≠sg:=h.tab.ne h.sl.sg (by decide)
 have n5:=h.mp.AC h.sl.sb
 have n6:=h.mp.AC h.sl.sg
 refine ⟨⟨h.st.AA v h.st.lt (by simp [n1,n2]),h.tab.AA v h.tab.lt (by simp [n3,n4]),q,h.mp.AA v h.mp.lt (by simp [n5,n6]),λc hc=>(h.ws c hc).AA v (ADW _) λg hg hg2=>h.nb c hc g hg (by simp at hg2;rcases hg2 with e | e <;> simp [e]),h.dis,h.nb,h.n1,h.n2⟩,v.mono (ADW _) λk _ hk hk2=>hk (Bo.2 (Or.inl (by simp at hk2;rcases hk2 with e | e <;> simp [e]))),λg hg=>Or.inl hg⟩
def TB.map (h:TB w t sb sg tb mb n N S K G W O m f) {m':Nat} {f':Int->Option Int} (q:MQ 3 w' mb m' f') (v:Fr w.heap.size [mb] w w'):
 TB w' t sb sg tb mb n N S K G W O m' f'/\Mv w w' (BY t sb sg tb mb n G) (BY t sb sg tb mb n G):=by
 have n1:=h.mp.AC h.st
 have n2:=h.mp.AC h.tab
 have n3:=h.mp.AC h.sl.sb
 have n4:=h.mp.AC h.sl.sg
 refine ⟨⟨h.st.AA v h.st.lt (by simp [n1.symm]),h.tab.AA v h.tab.lt (by simp [n2.symm]),h.sl.AA v ⟨h.sl.sb.lt,h.sl.sg.lt⟩ ⟨by simp [n3.symm],by simp [n4.symm]⟩,q,λc hc=>(h.ws c hc).AA v (ADW _) λg hg hg2=>h.nb c hc g hg (by simp at hg2;simp [hg2]),h.dis,h.nb,h.n1,h.n2⟩,v.mono (ADW _) λk _ hk hk2=>hk (Bo.2 (Or.inl (by simp at hk2;simp [hk2]))),λg hg=>Or.inl hg⟩
end
def TX (w:World) (t n:Nat) (now:Int) (K:Ks) (F:List Nat):Prop:=
 ∃ sb sg tb mb S G W O,TB w t sb sg tb mb n (λ_=>now) S K G W O (Ay (oc n K)) (cq n K)/\Al n K/\(∀ i,1<=i->i<=48->O i=oc n K i)/\F=BY t sb sg tb mb n G
def TX.AA {B:Nat} {Z:List Nat} {w w':World} {t n:Nat} {now:Int} {K:Ks} {F:List Nat} (h:TX w t n now K F) (k:Fr B Z w w') (hB:w.heap.size<=B) (hZ:∀ g∈F,g∉Z):TX w' t n now K F:=by
 obtain ⟨sb,sg,tb,mb,S,G,W,O,b,a,o,rfl⟩:=h
 exact ⟨sb,sg,tb,mb,S,G,W,O,b.AA k hB hZ,a,o,rfl⟩
def TX.below (h:TX w t n now K F) (k:Below w.heap.size w w'):TX w' t n now K F:=h.AA (Fr.AE k) (ADW _) (by simp)
def TX.lt (h:TX w t n now K F) (hg:g∈F):g<w.heap.size:=by
 obtain ⟨sb,sg,tb,mb,S,G,W,O,b,a,o,rfl⟩:=h
 exact b.hi hg
def Bf {S:Nat->Nat} (c:Nat) (hc:(c:Int)<n) (c1:w.cell? ⟨t,1,none⟩=some (.slice (some ⟨tb,0,none⟩) n n)) (cw:w.cell? ⟨tb,c,none⟩=some (.pointer (some ⟨S c,0,none⟩))):
 Calls prog 100 #[.pointer (some ⟨t,0,none⟩),.int .i64 (c:Int)] w λe w'=>e=.returned (.tuple #[.pointer (some ⟨S c,0,none⟩),.int .i64 0])/\w'=w:=by
 generalize S c=s at *
 go_enter func100,ntmps100
 go_wp2
 go_ret2
 exact ⟨rfl,rfl⟩
def Ej (c:Int) (hc:¬ AJ n c) (c1:w.cell? ⟨t,1,none⟩=some (.slice (some ⟨tb,0,none⟩) n n)):
 Calls prog 100 #[.pointer (some ⟨t,0,none⟩),.int .i64 c] w λe w'=>e=.returned (.tuple #[.pointer none,.int .i64 3])/\w'=w:=by
 unfold AJ at hc
 by_cases q:c<0
 ·go_enter func100,ntmps100
  go_wp2
  go_ret2
  exact ⟨rfl,rfl⟩
 ·have q2:¬ c<n:=λz=>hc ⟨by omega,z⟩
  go_enter func100,ntmps100
  go_wp2
  go_ret2
  exact ⟨rfl,rfl⟩
open Sl
variable {F W:List Nat} {w wr:World} {id now:Int} {K:Ks} {G:Nat->List Nat} {S:Nat->Nat} {c i k m mb n sb sg t tb:Nat} {O:Nat->Bool} {f:Int->Option Int} {R:List It} {x:It}
def Me (w:World):(zeroValue 3).run prog w=.ok (.int .i64 0) w:=by kernel_rfl
def Qf {b:Nat} (h:MQ 3 w b m f) (hi:(Lit.int .i64 id).wf=true):(Instr.lookup 143 (.map (some b)) (.int .i64 id) true).run prog w=.ok (.tuple #[.int .i64 ((f id).getD 0),.bool (f id).isSome]) w:=
 DH (tm:=143) underlying3 underlying143 Me h hi
def Be (c:Int) (h0:0<=c) (h:c<=64):(Lit.int .i64 c).wf=true:=by
 simp [Lit.wf,IntKind.min,IntKind.max,IntKind.signed,IntKind.bits]
 omega
def H5 {α:Type} (x:α) (c:Nat):EL (λ_=>x) c x=λ_=>x:=funext λj=>by unfold EL;split <;> rfl
def Yw (id:Int) (hi:(Lit.int .i64 id).wf=true) (h:TX w t n now K F) (hn:AG n K id=none):
 Calls prog 139 #[.pointer (some ⟨t,0,none⟩),.int .i64 id] w λe w'=>e=.returned (.int .i64 4)/\w'=w:=by
 obtain ⟨sb,sg,tb,mb,S,G,W,O,b,a,o,rfl⟩:=h
 have l:=Qf b.mp hi
 rw [Oe.2 hn] at l
 have c2:=b.c2
 clear b a o hn hi
 go_enter func139,ntmps139
 go_wp2
 go_ret
 exact ⟨rfl,rfl⟩
def WM (a:Al n K) (o:∀ i,1<=i->i<=48->O i=oc n K i) (hn:AG n K id=some c)
 (b:TB w t sb sg tb mb n (EL (λ_=>now) c now) S (up K c (Av id (K c))) G W (gO 48 O id) (Ay (oc n K)-1) (λj=>if j=id then none else cq n K j)):
 TX w t n now (up K c (Av id (K c))) (BY t sb sg tb mb n G):=by
 rw [H5] at b
 obtain ⟨hc,hh⟩:=(Ah a).1 hn
 obtain ⟨a2,e2⟩:=Ys a hc hn
 have hr:=a.rg c hc id hh
 have t1:((id.toNat:Nat):Int)=id:=by omega
 have h1:oc n K id.toNat=true:=by unfold oc;rw [t1,hn];rfl
 have h2:oc n (up K c (Av id (K c))) id.toNat=false:=by unfold oc;rw [t1,e2,AHi rfl];rfl
 have h3:∀ j,j≠id.toNat->oc n K j=oc n (up K c (Av id (K c))) j:=λj hj=>by unfold oc;rw [e2,AHh (by omega)]
 have e3:Ay (oc n K)=Ay (oc n (up K c (Av id (K c))))+1:=Jm (by omega) (by omega) h3 h1 h2
 have e4:(λj=>if j=id then none else cq n K j)=cq n (up K c (Av id (K c))):=funext λj=>by
  unfold cq
  rw [e2]
  split <;> rfl
 rw [e3,AFP,e4] at b
 refine ⟨sb,sg,tb,mb,S,G,W,_,b,a2,λi i1 i2=>?_,rfl⟩
 have hs1:hs 48 O id=true:=by
  unfold hs
  rw [o _ (by omega) (by omega),h1]
  simp
  omega
 unfold gO
 rw [AHi hs1]
 unfold st
 by_cases q:i=id.toNat
 ·rw [AHi q,q,h2]
 ·rw [AHh q,o i i1 i2,h3 i q]
def M' (id:Int) (hi:(Lit.int .i64 id).wf=true) (h:TX w t n now K F) (hn:AG n K id=some c):
 Calls prog 139 #[.pointer (some ⟨t,0,none⟩),.int .i64 id] w λe w'=>e=.returned (.int .i64 0)/\∃ F',TX w' t n now (up K c (Av id (K c))) F'/\Mv w w' F F':=by
 obtain ⟨sb,sg,tb,mb,S,G,W,O,b,a,o,rfl⟩:=h
 obtain ⟨hc,hh⟩:=(Ah a).1 hn
 have hcm:cq n K id=some (c:Int):=by unfold cq;rw [hn];rfl
 have l:=Qf b.mp hi
 rw [hcm] at l
 have c2:=b.c2
 obtain ⟨w1,r1,M1,f1⟩:=Jk (tm:=143) underlying143 b.mp hi (by rw [hcm];rfl) 0
 obtain ⟨b1,v1⟩:=b.map M1 f1
 have d2:=b1.c2
 have d1:=b1.c1
 have dw:=b1.cw hc
 have DR:Hid (∀ _:Unit,_):=λ_=>Il id hi (b1.ws c hc) (ADd (a.len hc) (by omega))
 rw [show kJ (K c) id=0 from AHi hh] at DR
 have hr:=a.rg c hc id hh
 have ST:Hid (∀ w2 F',WW w2 (S c) now (Av id (K c)) F'->Mv w1 w2 (G c) F'->w2.cell? ⟨t,0,none⟩=some (.pointer (some ⟨sb,0,none⟩))/\Hid (Calls prog 190 #[.pointer (some ⟨sb,0,none⟩),.int .i64 id] w2 λe w'=>e=.returned (.int .i64 0)/\∃ F',TX w' t n now (up K c (Av id (K c))) F'/\Mv w w' (BY t sb sg tb mb n G) F')):=λw2 F' q v=>by
  obtain ⟨b2,v2⟩:=b1.Ko hc q v
  refine ⟨b2.c0,(Ll id w2 b2.sl).mono ?_⟩
  rintro e w3 ⟨rfl,⟨W',q3⟩,f3⟩
  obtain ⟨b3,v3⟩:=b2.slot q3 f3
  refine ⟨?_,_,WM a o hn b3,(v1.trans v2).trans v3⟩
  have h1:oc n K id.toNat=true:=by unfold oc;rw [show ((id.toNat:Nat):Int)=id by omega,hn];rfl
  have hs1:hs 48 O id=true:=by
   unfold hs
   rw [o _ (by omega) (by omega),h1]
   simp
   omega
  unfold gE
  rw [AHi hs1]
 have hc2:(c:Int)<n:=by omega
 generalize S c=s at *
 clear M1 f1 b1 v1 b a o hn hh hcm hr hi hc
 go_enter func139,ntmps139
 go_wp2_with fail
 refine (DR.out ()).mono ?_
 rintro e w2 ⟨rfl,F',q,v⟩
 obtain ⟨e0,GV⟩:=ST.out w2 F' q v
 clear q v ST DR
 go_wp2_with fail
 refine GV.out.mono ?_
 rintro e w3 ⟨rfl,FF⟩
 have FH:Hid _:=FF
 clear FF
 go_wp2
 go_ret
 exact ⟨rfl,FH.out⟩
def WO (id:Int) (hi:(Lit.int .i64 id).wf=true) (h:TX w t n now K F):
 Calls prog 139 #[.pointer (some ⟨t,0,none⟩),.int .i64 id] w λe w'=>e=.returned (.int .i64 (kK n K id))/\∃ F',TX w' t n now (Yv n K id) F'/\Mv w w' F F':=by
 unfold kK Yv
 cases hn:AG n K id with
 | none=>
  refine (Yw id hi h hn).mono ?_
  rintro e w' ⟨rfl,rfl⟩
  exact ⟨rfl,F,h,Mv.refl _ _⟩
 | some c=>exact M' id hi h hn
def Yx (c d:Int) (hc:¬ AJ n c) (h:TX w t n now K F):
 Calls prog 208 #[.pointer (some ⟨t,0,none⟩),.int .i64 c,.int .i64 d] w λe w'=>e=.returned (.tuple #[.int .i64 0,.int .i64 3])/\w'=w:=by
 obtain ⟨sb,sg,tb,mb,S,G,W,O,b,a,o,rfl⟩:=h
 have ON:Hid (∀ _:Unit,_):=λ_=>Ej c hc b.c1
 clear b a o hc
 go_enter func208,ntmps208
 go_wp2_with fail
 refine (ON.out ()).mono ?_
 rintro e w' ⟨rfl,rfl⟩
 go_wp2
 go_ret2
 exact ⟨rfl,rfl⟩
def nZ (c:Nat) (d:Int) (hc:c<n) (hd:¬ AO d) (h:TX w t n now K F):
 Calls prog 208 #[.pointer (some ⟨t,0,none⟩),.int .i64 (c:Int),.int .i64 d] w λe w'=>e=.returned (.tuple #[.int .i64 0,.int .i64 2])/\w'=w:=by
 obtain ⟨sb,sg,tb,mb,S,G,W,O,b,a,o,rfl⟩:=h
 have ON:Hid (∀ _:Unit,_):=λ_=>Bf (S:=S) c (by omega) b.c1 (b.cw hc)
 generalize S c=s at *
 clear b a o hc
 unfold AO at hd
 by_cases q:d<0
 ·go_enter func208,ntmps208
  go_wp2_with fail
  refine (ON.out ()).mono ?_
  rintro e w' ⟨rfl,rfl⟩
  go_wp2
  go_ret2
  exact ⟨rfl,rfl⟩
 ·have q2:1152921504606846976<d:=by omega
  go_enter func208,ntmps208
  go_wp2_with fail
  refine (ON.out ()).mono ?_
  rintro e w' ⟨rfl,rfl⟩
  go_wp2
  go_ret2
  exact ⟨rfl,rfl⟩
def eH (c:Nat) (d:Int) (hc:c<n) (hd:AO d) (h:TX w t n now K F) (ht:A9 w) (hf:ff 48 (oc n K)=none):
 Calls prog 208 #[.pointer (some ⟨t,0,none⟩),.int .i64 (c:Int),.int .i64 d] w λe w'=>e=.returned (.tuple #[.int .i64 0,.int .i64 5])/\∃ F',TX w' t n now K F'/\Mv w w' F F':=by
 obtain ⟨sb,sg,tb,mb,S,G,W,O,b,a,o,rfl⟩:=h
 have ON:Hid (∀ _:Unit,_):=λ_=>Bf (S:=S) c (by omega) b.c1 (b.cw hc)
 have TK:Hid (∀ _:Unit,_):=λ_=>Ij w b.sl ht
 rw [Yu 48 o,hf] at TK
 unfold tN tE tO at TK
 dsimp only at TK
 have ST:Hid (∀ w',(∃ W',T w' sb sg 48 W' O)->Fr w.heap.size [sb,sg] w w'->∃ F',TX w' t n now K F'/\Mv w w' (BY t sb sg tb mb n G) F'):=λw' ⟨W',q⟩ f=>by
  obtain ⟨b2,v2⟩:=b.slot q f
  exact ⟨_,⟨sb,sg,tb,mb,S,G,W',O,b2,a,o,rfl⟩,v2⟩
 have c0:=b.c0
 generalize S c=s at *
 obtain ⟨d0,d1⟩:=hd
 clear b a o hc hf ht
 go_enter func208,ntmps208
 go_wp2_with fail
 refine (ON.out ()).mono ?_
 rintro e w' ⟨rfl,rfl⟩
 go_wp2_with fail
 refine (TK.out ()).mono ?_
 rintro e w2 ⟨rfl,q,f⟩
 have FF:Hid _:=ST.out w2 q f
 clear q f
 go_wp2
 go_ret2
 exact ⟨rfl,FF.out⟩
def oA {d:Int} (a:Al n K) (o:∀ i,1<=i->i<=48->O i=oc n K i) (hc:c<n) (hf:ff 48 (oc n K)=some i)
 (b:TB w t sb sg tb mb n (EL (λ_=>now) c now) S (up K c (ins (d,((i+1:Nat):Int)) (K c))) G W (st O (i+1) true) (if (cq n K ((i+1:Nat):Int)).isSome=true then Ay (oc n K) else Ay (oc n K)+1) (λj=>if j=((i+1:Nat):Int) then some (c:Int) else cq n K j)):
 TX w t n now (up K c (ins (d,((i+1:Nat):Int)) (K c))) (BY t sb sg tb mb n G):=by
 rw [H5] at b
 obtain ⟨i1,i2⟩:=Uz hf
 have hn:AG n K ((i+1:Nat):Int)=none:=by
  unfold oc at i2
  cases e:AG n K ((i+1:Nat):Int) with
  | none=>rfl
  | some z=>rw [e] at i2;cases i2
 obtain ⟨a2,e2⟩:=Yr a hc d hn (by omega) (by omega)
 have h2:oc n (up K c (ins (d,((i+1:Nat):Int)) (K c))) (i+1)=true:=by unfold oc;rw [e2,AHi rfl];rfl
 have h3:∀ j,j≠i+1->oc n (up K c (ins (d,((i+1:Nat):Int)) (K c))) j=oc n K j:=λj hj=>by unfold oc;rw [e2,AHh (by omega)]
 have e3:=Jm (by omega) (by omega) h3 h2 i2
 have e4:(λj=>if j=((i+1:Nat):Int) then some (c:Int) else cq n K j)=cq n (up K c (ins (d,((i+1:Nat):Int)) (K c))):=funext λj=>by
  unfold cq
  rw [e2]
  split <;> rfl
 rw [Oe.2 hn,e4] at b
 rw [AHh (by simp),<- e3] at b
 refine ⟨sb,sg,tb,mb,S,G,W,_,b,a2,λj j1 j2=>?_,rfl⟩
 unfold st
 by_cases q:j=i+1
 ·rw [AHi q,q,h2]
 ·rw [AHh q,o j j1 j2,h3 j q]
def oB (c:Nat) (d:Int) (hc:c<n) (hd:AO d) (h:TX w t n now K F) (ht:A9 w) (hf:ff 48 (oc n K)=some i):
 Calls prog 208 #[.pointer (some ⟨t,0,none⟩),.int .i64 (c:Int),.int .i64 d] w λe w'=>e=.returned (.tuple #[.int .i64 ((i+1:Nat):Int),.int .i64 0])/\∃ F',TX w' t n now (up K c (ins (d,((i+1:Nat):Int)) (K c))) F'/\Mv w w' F F':=by
 obtain ⟨sb,sg,tb,mb,S,G,W,O,b,a,o,rfl⟩:=h
 obtain ⟨i1,i2⟩:=Uz hf
 have ON:Hid (∀ _:Unit,_):=λ_=>Bf (S:=S) c (by omega) b.c1 (b.cw hc)
 have TK:Hid (∀ _:Unit,_):=λ_=>Ij w b.sl ht
 rw [Yu 48 o,hf] at TK
 unfold tN tE tO at TK
 dsimp only at TK
 have n2:=b.n2
 have hn:AG n K ((i+1:Nat):Int)=none:=by
  unfold oc at i2
  cases e:AG n K ((i+1:Nat):Int) with
  | none=>rfl
  | some z=>rw [e] at i2;cases i2
 have hno:=At.1 hn c hc
 have ST:Hid (∀ w1,(∃ W',T w1 sb sg 48 W' (st O (i+1) true))->Fr w.heap.size [sb,sg] w w1->w1.cell? ⟨t,2,none⟩=some (.map (some mb))/\∃ w2,(Instr.mapUpdate 143 (.map (some mb)) (.int .i64 ((i+1:Nat):Int)) (.int .i64 (c:Int))).run prog w1=.ok () w2/\Hid (Calls prog 265 #[.pointer (some ⟨S c,0,none⟩),.int .i64 ((i+1:Nat):Int),.int .i64 d] w2 λe w'=>e=.returned (.int .i64 0)/\∃ F',TX w' t n now (up K c (ins (d,((i+1:Nat):Int)) (K c))) F'/\Mv w w' (BY t sb sg tb mb n G) F')):=λw1 ⟨W',q⟩ f=>by
  obtain ⟨b1,v1⟩:=b.slot q f
  obtain ⟨w2,r2,M2,f2⟩:=GM (tm:=143) underlying3 underlying143 b1.mp (ADd (Ey _) (by omega)) (id:=((i+1:Nat):Int)) (Be _ (by omega) (by omega)) (c:=(c:Int)) (Be _ (by omega) (by omega))
  obtain ⟨b2,v2⟩:=b1.map M2 f2
  refine ⟨b1.c2,w2,r2,(H3 ((i+1:Nat):Int) d (Be _ (by omega) (by omega)) (b2.ws c hc) (ADd (a.len hc) (by omega))).mono ?_⟩
  rintro e w3 ⟨rfl,F',q3,v3⟩
  have no:¬ (wn (K c) ((i+1:Nat):Int)).isSome=true:=by rw [show (wn (K c) ((i+1:Nat):Int)).isSome=false from hno];decide
  unfold Dn at q3
  rw [AHi hd,AHh no] at q3
  obtain ⟨b3,v4⟩:=b2.Ko hc q3 v3
  refine ⟨?_,_,oA a o hc hf b3,(v1.trans v2).trans v4⟩
  unfold BA
  rw [AHi hd,AHh no]
 have c0:=b.c0
 generalize S c=s at *
 obtain ⟨d0,d1⟩:=hd
 clear b a o hc hf ht hn hno n2 i1 i2
 generalize ((i+1:Nat):Int)=id at *
 generalize st O (i+1) true=O' at *
 go_enter func208,ntmps208
 go_wp2_with fail
 refine (ON.out ()).mono ?_
 rintro e w' ⟨rfl,rfl⟩
 go_wp2_with fail
 refine (TK.out ()).mono ?_
 rintro e w1 ⟨rfl,q,f⟩
 obtain ⟨e2,w2,r2,AD⟩:=ST.out w1 q f
 clear q f ST
 go_wp2_with fail
 refine AD.out.mono ?_
 rintro e w3 ⟨rfl,FF⟩
 have FH:Hid _:=FF
 clear FF
 go_wp2
 go_ret2
 exact ⟨rfl,FH.out⟩
def Yy (n:Nat) (K:Ks) (c d:Int):Int:=if AJ n c then (if AO d then tN (ff 48 (oc n K)) else 0) else 0
def kL (n:Nat) (K:Ks) (c d:Int):Int:=if AJ n c then (if AO d then tE (ff 48 (oc n K)) else 2) else 3
def Pf (n:Nat) (K:Ks) (c d:Int):Ks:=if AJ n c then (if AO d then vX n K c.toNat d else K) else K
def oC (c d:Int) (h:TX w t n now K F) (ht:A9 w):
 Calls prog 208 #[.pointer (some ⟨t,0,none⟩),.int .i64 c,.int .i64 d] w λe w'=>e=.returned (.tuple #[.int .i64 (Yy n K c d),.int .i64 (kL n K c d)])/\∃ F',TX w' t n now (Pf n K c d) F'/\Mv w w' F F':=by
 unfold Yy kL Pf
 by_cases hc:AJ n c
 ·rw [AHi hc,AHi hc,AHi hc]
  obtain ⟨k,rfl⟩:∃ k:Nat,c=k:=⟨c.toNat,by have:=hc.1;omega⟩
  have hk:k<n:=by have:=hc.2;omega
  by_cases hd:AO d
  ·rw [AHi hd,AHi hd,AHi hd]
   unfold vX
   cases hf:ff 48 (oc n K) with
   | none=>exact eH k d hk hd h ht hf
   | some i=>exact oB k d hk hd h ht hf
  ·rw [AHh hd,AHh hd,AHh hd]
   refine (nZ k d hk hd h).mono ?_
   rintro e w' ⟨rfl,rfl⟩
   exact ⟨rfl,F,h,Mv.refl _ _⟩
 ·rw [AHh hc,AHh hc,AHh hc]
  refine (Yx c d hc h).mono ?_
  rintro e w' ⟨rfl,rfl⟩
  exact ⟨rfl,F,h,Mv.refl _ _⟩
def Tryz.vZ:(prog.info? 152).map (λi=>(i.zero,i.size,i.bytes))=some (some (.pointer none),1,8):=by kernel_rfl
def Dd (S:Nat->Nat) (n k:Nat):List Value:=(List.range n).map λc=>if c<k then .pointer (some ⟨S c,0,none⟩) else .pointer none
def L7 (S:Nat->Nat) (n k c:Nat) (h:c<n):(Dd S n k)[c]?=some (if c<k then .pointer (some ⟨S c,0,none⟩) else .pointer none):=by
 unfold Dd
 rw [ADn,AET h]
 rfl
def eI (S:Nat->Nat) (n k s:Nat) (_:k<n):(Dd S n k).set k (.pointer (some ⟨s,0,none⟩))=Dd (EL S k s) n (k+1):=by
 apply AEH
 intro c
 by_cases hc:c<n
 ·rw [L7 _ _ _ _ hc,AD6]
  by_cases e:k=c
  ·subst e
   rw [AHi rfl,AHi (by simpa [Dd] using hc),AHi (by omega),Bd]
  ·rw [AHh e,L7 _ _ _ _ hc,Aw _ (λq=>e q.symm)]
   by_cases q:c<k
   ·rw [AHi q,AHi (by omega)]
   ·rw [AHh q,AHh (by omega)]
 ·rw [ADg (by simp [Dd];omega),ADg (by simp [Dd];omega)]
def eJ (S:Nat->Nat) (n:Nat):Dd S n n=(List.range n).map λc=>.pointer (some ⟨S c,0,none⟩):=by
 unfold Dd
 apply AFu
 intro c hc
 rw [AHi (ADk.1 hc)]
def Yz (S:Nat->Nat) (n:Nat):madeCells #[Value.pointer none] n=(Dd S n 0).toArray:=by
 apply AFU
 ·simp [size_madeCells,Dd]
 ·intro i h1 h2
  simp [madeCells,Dd,AF5]
structure TN (w wr:World) (t sb sg tb mb n k:Nat) (S:Nat->Nat):Prop where
 bel:Below w.heap.size w wr
 lo:∀ g∈[t,sb,sg,tb,mb],w.heap.size<=g
 st:AB wr t [.pointer (some ⟨sb,0,none⟩),.slice (some ⟨tb,0,none⟩) n n,.map (some mb)] 151
 tab:AB wr tb (Dd S n k) 152
 sl:∃ W,T wr sb sg 48 W λ_=>false
 mp:MQ 3 wr mb 0 λ_=>none
 ws:∀ c,c<k->WW wr (S c) 0 [] [S c]
 dis:∀ c d,c<k->d<k->c≠d->S c≠S d
 nb:∀ c,c<k->S c∉[t,sb,sg,tb,mb]/\w.heap.size<=S c
def TN.lt {w wr:World} {t sb sg tb mb n k:Nat} {S:Nat->Nat} (h:TN w wr t sb sg tb mb n k S) {g:Nat} (hg:g∈[t,sb,sg,tb,mb]):g<wr.heap.size:=by
 obtain ⟨W,s⟩:=h.sl
 simp only [AD0,ADt,or_false] at hg
 rcases hg with rfl | rfl | rfl | rfl | rfl
 ·exact h.st.lt
 ·exact s.sb.lt
 ·exact s.sg.lt
 ·exact h.tab.lt
 ·exact h.mp.lt
def oD {w1:World} (h:TN w wr t sb sg tb mb n k S) (hk:k<n) (q:WW w1 wr.heap.size 0 [] [wr.heap.size]) (f:Below wr.heap.size wr w1):
 TN w (w1.setCell ⟨tb,k,none⟩ (.pointer (some ⟨wr.heap.size,0,none⟩))) t sb sg tb mb n (k+1) (EL S k wr.heap.size):=by
 obtain ⟨W,s⟩:=h.sl
 have hw:=h.bel.size
 have hz:=f.size
 have f1:=Fr.AE f
 have n1:t≠tb:=h.st.ne h.tab (by decide)
 have n2:sb≠tb:=s.sb.ne h.tab (by decide)
 have n3:sg≠tb:=s.sg.ne h.tab (by decide)
 have n4:mb≠tb:=h.mp.AC h.tab
 have fs:Fr w1.heap.size [tb] w1 (w1.setCell ⟨tb,k,none⟩ (.pointer (some ⟨wr.heap.size,0,none⟩))):=(Fr.refl _ _ _).setCell (Or.inr (by simp)) _
 have ltb:=h.lt (g:=tb) (by simp)
 have mem1:=h.lo tb (by simp)
 refine ⟨(h.bel.trans (f.mono hw)).setCell (p:=⟨tb,k,none⟩) mem1 _,h.lo,(h.st.AA f1 h.st.lt (by simp)).other (p:=⟨tb,k,none⟩) n1 _,?_,⟨W,?_⟩,?_,λc hc=>?_,λc d hc hd hn=>?_,λc hc=>?_⟩
 ·rw [<- eI _ _ _ _ hk]
  exact (h.tab.AA f1 h.tab.lt (by simp)).set k _
 ·have s1:=s.AA f1 ⟨s.sb.lt,s.sg.lt⟩ (by simp)
  exact s1.AA fs ⟨s1.sb.lt,s1.sg.lt⟩ ⟨by simp [n2],by simp [n3]⟩
 ·have m1:=h.mp.AA f1 h.mp.lt (by simp)
  exact m1.AA fs m1.lt (by simp [n4])
 ·by_cases e:c=k
  ·subst e
   rw [Bd]
   exact q.AA fs (ADW _) (by simp;omega)
  ·rw [Aw _ e]
   have:=(h.nb c (by omega)).1
   simp only [AD0,ADt,or_false,not_or] at this
   exact ((h.ws c (by omega)).below f).AA fs (ADW _) (by simp;exact this.2.2.2.1)
 ·have key:∀ c,c<k->S c≠wr.heap.size:=λc hc=>by
   have:=(h.ws c hc).lt (g:=S c) (by simp)
   omega
  by_cases e1:c=k
  ·subst e1
   rw [Bd,Aw _ (λz=>hn z.symm)]
   exact λz=>key d (by omega) z.symm
  ·rw [Aw _ e1]
   by_cases e2:d=k
   ·subst e2
    rw [Bd]
    exact key c (by omega)
   ·rw [Aw _ e2]
    exact h.dis c d (by omega) (by omega) hn
 ·by_cases e:c=k
  ·subst e
   rw [Bd]
   exact ⟨λhm=>by have:=h.lt hm;omega,hw⟩
  ·rw [Aw _ e]
   exact h.nb c (by omega)
def wB (h:TN w wr t sb sg tb mb n n S) (h1:1<=n) (h2:n<=64):
 ∃ F,TX wr t n 0 (λ_=>[]) F/\(∀ g∈F,w.heap.size<=g)/\Below w.heap.size w wr:=by
 obtain ⟨W,s⟩:=h.sl
 have e1:oc n (λ_=>[])=λ_=>false:=funext λi=>by unfold oc;rw [H4];rfl
 have e2:cq n (λ_=>[])=λ_=>none:=funext λi=>Oe.2 (H4 n i)
 have e3:Ay (λ_=>false)=0:=by decide
 refine ⟨BY t sb sg tb mb n λc=>[S c],⟨sb,sg,tb,mb,S,λc=>[S c],W,λ_=>false,⟨h.st,by rw [<- eJ];exact h.tab,s,by rw [e1,e2,e3];exact h.mp,h.ws,λc d hc hd hn g hg=>?_,λc hc g hg=>?_,h1,h2⟩,M9 n,λi _ _=>by rw [e1],rfl⟩,λg hg=>?_,h.bel⟩
 ·simp at hg ⊢
  rw [hg]
  exact h.dis c d hc hd hn
 ·simp only [ADu] at hg
  rw [hg]
  exact (h.nb c hc).1
 ·rcases Bo.1 hg with q | ⟨c,hc,q⟩
  ·exact h.lo g q
  ·simp only [ADu] at q
   rw [q]
   exact (h.nb c hc).2
def eK (n:Nat) (w:World) (h1:(1:Int)<=n) (h2:(n:Int)<=64):
 Calls prog 28 #[.int .i64 (n:Int)] w λe w'=>∃ t,e=.returned (.tuple #[.pointer (some ⟨t,0,none⟩),.int .i64 0])/\∃ F,TX w' t n 0 (λ_=>[]) F/\(∀ g∈F,w.heap.size<=g)/\Below w.heap.size w w':=by
 have NS:Hid (∀ _:Unit,_):=λ_=>Ka 48 w (by decide) (by decide)
 have C:Hid (∀ w,_):=λw=>dW 0 w (by decide)
 have hmk:=run_make_row' (P:=prog) 149 152 (.pointer none) 8 underlying149 Tryz.vZ rfl .i64 .i64 n (by omega) (by omega)
 rw [Yz (λ_=>0) n] at hmk
 have hmm:=@run_makeMap prog
 obtain ⟨T0,hT⟩:∃ T0,Dd (λ_=>0) n 0=T0:=⟨_,rfl⟩
 have HT:Hid (Dd (λ_=>0) n 0=T0):=hT
 rw [hT] at hmk
 clear hT
 go_enter func28,ntmps28
 go_wp2_with fail
 refine (NS.out ()).mono ?_
 rintro e w1 ⟨rfl,⟨W,s⟩,f1⟩
 have hs:=s.sb.lt
 have hg:=s.sg.lt
 have P0:Hid (TN w (((w1.alloc (.cells T0.toArray 152)).alloc (.map #[] 0)).alloc (.cells #[.pointer (some ⟨w.heap.size+1,0,none⟩),.slice (some ⟨w1.heap.size,0,none⟩) n n,.map (some (w1.heap.size+1))] 151)) (w1.heap.size+2) (w.heap.size+1) w.heap.size w1.heap.size (w1.heap.size+1) n 0 λ_=>0):=by
  have b0:Below w.heap.size w w1:=f1.below (by simp)
  refine ⟨((b0.alloc (by omega) _).alloc (by simp;omega) _).alloc (by simp;omega) _,?_,?_,?_,⟨W,?_⟩,?_,λc hc=>by omega,λc d hc=>by omega,λc hc=>by omega⟩
  ·intro g hg
   simp only [AD0,ADt,or_false] at hg
   omega
  ·have:=AB.new ((w1.alloc (.cells T0.toArray 152)).alloc (.map #[] 0)) [.pointer (some ⟨w.heap.size+1,0,none⟩),.slice (some ⟨w1.heap.size,0,none⟩) n n,.map (some (w1.heap.size+1))] 151
   rwa [World.size_alloc,World.size_alloc] at this
  ·rw [HT.out]
   exact ((AB.new w1 _ _).alloc _).alloc _
  ·exact ⟨((s.sb.alloc _).alloc _).alloc _,((s.sg.alloc _).alloc _).alloc _,s.wd⟩
  ·have m0:=Jj (te:=3) (w1.alloc (.cells T0.toArray 152))
   rw [World.size_alloc] at m0
   exact m0.AA ((Fr.refl _ [] _).alloc (ADW _) _) (by simp) (by simp)
 clear s f1 hs hg NS
 go_wp2
 generalize w1.heap.size+2=t at *
 generalize w1.heap.size+1=mb at *
 generalize w1.heap.size=tb at *
 generalize w.heap.size+1=sb at *
 go_loopw [34] (λi wr=>∃ (k:Nat) (S:Nat->Nat),(k:Int)<=n/\i=.int .i64 (k:Int)/\TN w wr t sb w.heap.size tb mb n k S) (λi _=>n-(intOf i).toNat)
 case atStart=>exact ⟨0,_,by omega,rfl,P0.out⟩
 case round=>
  obtain ⟨k,S,hk,rfl,P⟩:=hrel
  by_cases c:(k:Int)<n
  ·have C1:Hid (∀ _:Unit,_):=λ_=>C.out wr
   have ST:Hid (∀ w1:World,_->_->_):=λw1 q f=>oD (w1:=w1) P (by omega) q f
   have cb:Hid (∀ w1:World,Below wr.heap.size wr w1->w1.cell? ⟨tb,k,none⟩=some (.pointer none)/\w1.frozen? ⟨tb,k,none⟩=false/\w1.cell? ⟨t,1,none⟩=some (.slice (some ⟨tb,0,none⟩) n n)):=λw1 f=>by
    have b:=P.tab.AA (Fr.AE f) P.tab.lt (by simp)
    have b2:=P.st.AA (Fr.AE f) P.st.lt (by simp)
    exact ⟨by rw [b.cell,L7 _ _ _ _ (by omega),AHh (by omega)],b.free k,b2.cell 1⟩
   clear P P0
   go_wp2_with fail
   refine (C1.out ()).mono ?_
   rintro e w1 ⟨rfl,q,f⟩
   obtain ⟨c1,f1,s1⟩:=cb.out w1 f
   have N2:Hid _:=ST.out w1 q f
   clear q f
   go_wp2
   go_roundw
   case rel=>exact ⟨k+1,_,by omega,by go_num,N2.out⟩
   case measure=>simp [intOf];omega
  ·obtain rfl:k=n:=by omega
   have e:Hid _:=wB P (by omega) (by omega)
   clear P P0
   go_wp2
   go_ret2
   exact ⟨t,rfl,e.out⟩
def Ki (K:Ks) (c:Nat):up K c (K c)=K:=funext λj=>by
 unfold up
 split
 ·rename_i e;rw [e]
 ·rfl
def TB.WQ {N N':Nat->Int} (h:TB w t sb sg tb mb n N S K G W O m f) (e:∀ c,c<n->N' c=N c):TB w t sb sg tb mb n N' S K G W O m f:=
 ⟨h.st,h.tab,h.sl,h.mp,λc hc=>by rw [e c hc];exact h.ws c hc,h.dis,h.nb,h.n1,h.n2⟩
def wC (z:Int) (h:TX w t n now K F) (hz:z<now\/1152921504606846976<z):
 Calls prog 219 #[.pointer (some ⟨t,0,none⟩),.int .i64 z] w λe w'=>e=.returned (.int .i64 2)/\∃ F',TX w' t n now K F'/\Mv w w' F F':=by
 obtain ⟨sb,sg,tb,mb,S,G,W,O,b,a,o,rfl⟩:=h
 have h1:=b.n1
 have C:Hid (∀ _:Unit,_):=λ_=>Yp z (b.ws 0 h1) (ADd (a.len h1) (by omega))
 rw [show M6 now z=2 from AHi hz,show M7 now z=now from AHi hz] at C
 have ST:Hid (∀ w' F',WW w' (S 0) now (K 0) F'->Mv w w' (G 0) F'->∃ F',TX w' t n now K F'/\Mv w w' (BY t sb sg tb mb n G) F'):=λw' F' q v=>by
  obtain ⟨b2,v2⟩:=b.Ko h1 q v
  rw [H5,Ki] at b2
  exact ⟨_,⟨sb,sg,tb,mb,S,_,W,O,b2,a,o,rfl⟩,v2⟩
 have c1:=b.c1
 have cw:=b.cw h1
 have n1:(1:Int)<=n:=by omega
 generalize S 0=s at *
 clear b a o hz h1
 go_enter func219,ntmps219
 go_wp2
 go_loopw [15] (λi wr=>i=.int .i64 0/\wr=w) (λ_ _=>0)
 case atStart=>exact ⟨rfl,rfl⟩
 case round=>
  obtain ⟨rfl,rfl⟩:=hrel
  go_wp2_with fail
  refine (C.out ()).mono ?_
  rintro e w' ⟨rfl,F',q,v⟩
  have FF:Hid _:=ST.out w' F' q v
  clear q v
  go_wp2
  go_ret
  exact ⟨rfl,FF.out⟩
def oE (z:Int) (h:TX w t n now K F) (hz:¬ (z<now\/1152921504606846976<z)):
 Calls prog 219 #[.pointer (some ⟨t,0,none⟩),.int .i64 z] w λe w'=>e=.returned (.int .i64 0)/\∃ F',TX w' t n z K F'/\Mv w w' F F':=by
 obtain ⟨sb,sg,tb,mb,S,G,W,O,b,a,o,rfl⟩:=h
 have h1:=b.n1
 have n2:(n:Int)<=64:=by have:=b.n2;omega
 have c1:=b.c1
 obtain ⟨P,hP⟩:∃ P:World->Nat->(Nat->List Nat)->Prop,∀ wr k G',P wr k G'=(TB wr t sb sg tb mb n (λc=>if c<k then z else now) S K G' W O (Ay (oc n K)) (cq n K)/\Mv w wr (BY t sb sg tb mb n G) (BY t sb sg tb mb n G')):=⟨_,λ_ _ _=>rfl⟩
 have P0:Hid (P w 0 G):=by
  rw [hP]
  exact ⟨b.WQ λc _=>AHh (by omega),Mv.refl _ _⟩
 have PE:Hid (∀ wr G',P wr n G'->∃ F',TX wr t n z K F'/\Mv w wr (BY t sb sg tb mb n G) F'):=λwr G' p=>by
  rw [hP] at p
  exact ⟨_,⟨sb,sg,tb,mb,S,G',W,O,p.1.WQ λc hc=>(AHi hc).symm,a,o,rfl⟩,p.2⟩
 have PS:Hid (∀ wr k G',k<n->P wr k G'->wr.cell? ⟨tb,k,none⟩=some (.pointer (some ⟨S k,0,none⟩))/\Hid (Calls prog 276 #[.pointer (some ⟨S k,0,none⟩),.int .i64 z] wr λe w'=>e=.returned (.int .i64 0)/\∃ G2,P w' (k+1) G2)):=λwr k G' hk p=>by
  rw [hP] at p
  obtain ⟨p,v⟩:=p
  have q0:=p.ws k hk
  rw [AHh (Nat.lt_irrefl k)] at q0
  refine ⟨p.cw hk,(Yp z q0 (ADd (a.len hk) (by omega))).mono ?_⟩
  rintro e w' ⟨rfl,F',q,v'⟩
  rw [show M7 now z=z from AHh hz] at q
  obtain ⟨b2,v2⟩:=p.Ko hk q v'
  rw [Ki] at b2
  refine ⟨by rw [show M6 now z=0 from AHh hz],EL G' k F',?_⟩
  rw [hP]
  refine ⟨b2.WQ λc _=>?_,v.trans v2⟩
  by_cases e:c=k
  ·subst e
   rw [Bd,AHi (by omega)]
  ·rw [Aw _ e]
   by_cases e2:c<k
   ·rw [AHi e2,AHi (by omega)]
   ·rw [AHh e2,AHh (by omega)]
 have HC:Hid (∀ wr k G',P wr k G'->wr.cell? ⟨t,1,none⟩=some (.slice (some ⟨tb,0,none⟩) n n)):=λwr k G' p=>by
  rw [hP] at p
  exact p.1.c1
 clear hP b a o hz h1
 go_enter func219,ntmps219
 go_wp2
 go_loopw [15] (λi wr=>∃ (k:Nat) (G':Nat->List Nat),(k:Int)<=n/\i=.int .i64 (k:Int)/\P wr k G') (λi _=>n-(intOf i).toNat)
 case atStart=>exact ⟨0,G,by omega,rfl,P0.out⟩
 case round=>
  obtain ⟨k,G',hk,rfl,p⟩:=hrel
  by_cases c:(k:Int)<n
  ·obtain ⟨cw,CG⟩:=PS.out wr k G' (by omega) p
   generalize S k=s at *
   clear p
   go_wp2_with fail
   refine CG.out.mono ?_
   rintro e w' ⟨rfl,G2,p2⟩
   go_wp2
   go_roundw
   case rel=>exact ⟨k+1,G2,by omega,by go_num,p2⟩
   case measure=>simp [intOf];omega
  ·obtain rfl:k=n:=by omega
   have e:Hid _:=PE.out wr G' p
   clear p
   go_wp2
   go_ret
   exact ⟨rfl,e.out⟩
def oF (z:Int) (h:TX w t n now K F):
 Calls prog 219 #[.pointer (some ⟨t,0,none⟩),.int .i64 z] w λe w'=>e=.returned (.int .i64 (M6 now z))/\∃ F',TX w' t n (M7 now z) K F'/\Mv w w' F F':=by
 unfold M6 M7
 by_cases hz:z<now\/1152921504606846976<z
 ·rw [AHi hz,AHi hz]
  exact wC z h hz
 ·rw [AHh hz,AHh hz]
  exact oE z h hz
def Rk (h:TX w t n now K F):
 Calls prog 115 #[.pointer (some ⟨t,0,none⟩)] w λe w'=>e=.returned (.int .i64 now)/\w'=w:=by
 obtain ⟨sb,sg,tb,mb,S,G,W,O,b,a,o,rfl⟩:=h
 have h1:=b.n1
 have ON:Hid (∀ _:Unit,_):=λ_=>Bf (S:=S) (n:=n) 0 (by omega) b.c1 (b.cw h1)
 have NW:Hid (∀ _:Unit,_):=λ_=>Uw (b.ws 0 h1)
 generalize S 0=s at *
 clear b a o h1
 go_enter func115,ntmps115
 go_wp2_with fail
 refine (ON.out ()).mono ?_
 rintro e w' ⟨rfl,rfl⟩
 go_wp2_with fail
 refine (NW.out ()).mono ?_
 rintro e w' ⟨rfl,rfl⟩
 go_wp2
 go_ret
 exact ⟨rfl,rfl⟩
def WS (c:Int) (hc:¬ AJ n c) (h:TX w t n now K F):
 Calls prog 193 #[.pointer (some ⟨t,0,none⟩),.int .i64 c] w λe w'=>e=.returned (.tuple #[.int .i64 0,.int .i64 3])/\w'=w:=by
 obtain ⟨sb,sg,tb,mb,S,G,W,O,b,a,o,rfl⟩:=h
 have ON:Hid (∀ _:Unit,_):=λ_=>Ej c hc b.c1
 clear b a o hc
 go_enter func193,ntmps193
 go_wp2_with fail
 refine (ON.out ()).mono ?_
 rintro e w' ⟨rfl,rfl⟩
 go_wp2
 go_ret2
 exact ⟨rfl,rfl⟩
def Y2 (c:Nat) (hc:c<n) (h:TX w t n now K F) (hd:GP now (K c)=[]):
 Calls prog 193 #[.pointer (some ⟨t,0,none⟩),.int .i64 (c:Int)] w λe w'=>e=.returned (.tuple #[.int .i64 0,.int .i64 12])/\∃ F',TX w' t n now K F'/\Mv w w' F F':=by
 have hx:=h
 obtain ⟨sb,sg,tb,mb,S,G,W,O,b,a,o,rfl⟩:=h
 have ON:Hid (∀ _:Unit,_):=λ_=>Bf (S:=S) c (by omega) b.c1 (b.cw hc)
 have DU:Hid (∀ _:Unit,_):=λ_=>Ux (b.ws c hc) (ADd (a.len hc) (by omega))
 rw [hd] at DU
 have ST:Hid (∀ w',Below w.heap.size w w'->∃ F',TX w' t n now K F'/\Mv w w' (BY t sb sg tb mb n G) F'):=λw' k=>⟨_,hx.below k,Mv.below k _⟩
 generalize S c=s at *
 clear b a o hc hd hx
 go_enter func193,ntmps193
 go_wp2_with fail
 refine (ON.out ()).mono ?_
 rintro e w' ⟨rfl,rfl⟩
 go_wp2_with fail
 refine (DU.out ()).mono ?_
 rintro e w1 ⟨v,rfl,g⟩
 have FF:Hid _:=ST.out w1 g.bel
 obtain ⟨p,c',rfl⟩:=An g.own
 clear g
 go_wp2
 go_ret2
 exact ⟨rfl,FF.out⟩
def eL (c:Nat) (hc:c<n) (h:TX w t n now K F) (hd:GP now (K c)=x::R):
 Calls prog 193 #[.pointer (some ⟨t,0,none⟩),.int .i64 (c:Int)] w λe w'=>e=.returned (.tuple #[.int .i64 x.2,.int .i64 0])/\∃ F',TX w' t n now (up K c (Av x.2 (K c))) F'/\Mv w w' F F':=by
 have hx:=h
 have hlt:∀ g∈F,g<w.heap.size:=λg hg=>h.lt hg
 obtain ⟨sb,sg,tb,mb,S,G,W,O,b,a,o,rfl⟩:=h
 have ON:Hid (∀ _:Unit,_):=λ_=>Bf (S:=S) c (by omega) b.c1 (b.cw hc)
 have DU:Hid (∀ _:Unit,_):=λ_=>Ux (b.ws c hc) (ADd (a.len hc) (by omega))
 rw [hd] at DU
 have hm:x∈K c:=(AD9.1 (show x∈GP now (K c) by rw [hd];simp)).1
 have ho:AG n K x.2=some c:=(Ah a).2 ⟨hc,D' hm⟩
 have hr:=a.rg c hc x.2 (D' hm)
 have hlen:((ids (x::R)).length:Int)<=48:=by
  have h1:=a.len hc
  have h2:(GP now (K c)).length<=(K c).length:=ADq _ _
  rw [hd] at h2
  unfold ids
  rw [ADz]
  omega
 have hpos:(1:Int)<=((ids (x::R)).length:Nat):=by simp [ids];omega
 generalize hy:x.2=y at *
 have hid:ids (x::R)=y::ids R:=by unfold ids;rw [List.map_cons,hy]
 generalize BY t sb sg tb mb n G=F at *
 have CC:Hid (∀ w1 v,Gt w w1 v (ids (x::R))->∃ g cap,v=.slice (some ⟨g,0,none⟩) (ids (x::R)).length cap/\w1.cell? ⟨g,0,none⟩=some (.int .i64 y)/\Hid (∀ u,Sm u w1->Calls prog 139 #[.pointer (some ⟨t,0,none⟩),.int .i64 y] u λe w'=>e=.returned (.int .i64 0)/\w'.cell? ⟨g,0,none⟩=some (.int .i64 y)/\Hid (∀ u',Sm u' w'->∃ F',TX u' t n now (up K c (Av y (K c))) F'/\Mv w u' F F'))):=λw1 v gt=>by
  rcases gt.own.2 with ⟨_,hn⟩ | ⟨g,cap,cur,hv,hb,hh,_⟩
  ·omega
  ·have cy:w1.cell? ⟨g,0,none⟩=some (.int .i64 y):=by
    have:=gt.own
    subst hv
    have:=this.cellAt 0 (by omega)
    rw [this,hid]
    rfl
   refine ⟨g,cap,hv,cy,λu hu=>?_⟩
   have bu:Below w.heap.size w u:=hu.below gt.bel
   refine (M' y (Be _ (by omega) (by omega)) (hx.below bu) ho).mono ?_
   rintro e w' ⟨rfl,F',q,m⟩
   have hg:g<u.heap.size:=by have:=lt_of_block hh;have:=hu.1;rw [this];omega
   refine ⟨rfl,?_,λu' hu'=>⟨F',q.below (hu'.below (Below.refl _ _)),?_⟩⟩
   ·rw [m.fr.cell (p:=⟨g,0,none⟩) hg (λhm=>by have:=hlt g hm;omega)]
    unfold World.cell? at cy ⊢
    rw [hu.1]
    exact cy
   ·have m2:=(Mv.below bu F).trans m
    exact m2.trans (Mv.below (hu'.below (Below.refl _ _)) F')
 generalize (ids (x::R))=D at *
 generalize D.length=ln at *
 generalize S c=s at *
 have hp1:0<ln:=by omega
 have hp2:¬ ln=0:=by omega
 have hp3:((ln:Int)==0)=false:=by simpa using hp2
 clear b a o hc hd hx hm ho hr hid hlt hy
 go_enter func193,ntmps193
 go_wp2_with fail
 refine (ON.out ()).mono ?_
 rintro e w' ⟨rfl,rfl⟩
 go_wp2_with fail
 refine (DU.out ()).mono ?_
 rintro e w1 ⟨v,rfl,gt⟩
 obtain ⟨g,cap,rfl,cy,CA⟩:=CC.out w1 v gt
 clear gt CC DU
 go_wp2
 go_region_held3 (λw'=>w'.cell? ⟨g,0,none⟩=some (.int .i64 y)) (go_keep)
  (first | (go_at_call 139;refine (CA.out _ ?_).mono ?_;exact ⟨rfl,rfl,rfl,rfl⟩;rintro e w2 ⟨rfl,k1,FF⟩))
 all_goals (go_wp2;go_ret2;exact ⟨rfl,FF.out _ ⟨rfl,rfl,rfl,rfl⟩⟩)
def Ph (n:Nat) (K:Ks) (c:Int):Int:=if AJ n c then M8 (K c.toNat) else 0
def kM (n:Nat) (K:Ks) (c:Int):Int:=if AJ n c then CV (K c.toNat) else 3
def U0 (n:Nat) (now:Int) (K:Ks) (c:Int):Bool:=if AJ n c then decide (GP now (K c.toNat)≠[]) else false
def Ft {c:Int} (h:AJ n c):∃ k:Nat,c=k/\k<n:=⟨c.toNat,by have:=h.1;omega,by have:=h.1;have:=h.2;omega⟩
def wD {L:List It} (s:BV L):GP now L=[]↔CV L=12\/now<M8 L:=by
 cases L with
 | nil=>simp [GP,CV]
 | cons x R=>
  unfold GP CV M8
  rw [AEI]
  simp only [decide_eq_true_eq]
  constructor
  ·intro h
   have:=h x (by simp)
   exact Or.inr (by omega)
  ·intro h y hy hle
   have hx:now<x.1:=by rcases h with h | h;omega;exact h
   rcases AD0.1 hy with e | hm
   ·rw [e] at hle;omega
   ·have:=List.rel_of_pairwise_cons s hm
    unfold lt at this
    omega
def Y3 (c:Int) (h:TX w t n now K F):
 Calls prog 116 #[.pointer (some ⟨t,0,none⟩),.int .i64 c] w λe w'=>e=.returned (.tuple #[.int .i64 (Ph n K c),.int .i64 (kM n K c)])/\w'=w:=by
 obtain ⟨sb,sg,tb,mb,S,G,W,O,b,a,o,rfl⟩:=h
 unfold Ph kM
 by_cases hc:AJ n c
 ·rw [AHi hc,AHi hc]
  obtain ⟨k,rfl,hk⟩:=Ft hc
  rw [AD4]
  have ON:Hid (∀ _:Unit,_):=λ_=>Bf (S:=S) k (by omega) b.c1 (b.cw hk)
  have NX:Hid (∀ _:Unit,_):=λ_=>Iw (b.ws k hk) (ADd (a.len hk) (by omega))
  generalize S k=s at *
  generalize M8 (K k)=r1 at *
  generalize CV (K k)=r2 at *
  clear b a o hc hk
  go_enter func116,ntmps116
  go_wp2_with fail
  refine (ON.out ()).mono ?_
  rintro e w' ⟨rfl,rfl⟩
  go_wp2_with fail
  refine (NX.out ()).mono ?_
  rintro e w' ⟨rfl,rfl⟩
  go_wp2
  go_ret2
  exact ⟨rfl,rfl⟩
 ·rw [AHh hc,AHh hc]
  have ON:Hid (∀ _:Unit,_):=λ_=>Ej c hc b.c1
  clear b a o hc
  go_enter func116,ntmps116
  go_wp2_with fail
  refine (ON.out ()).mono ?_
  rintro e w' ⟨rfl,rfl⟩
  go_wp2
  go_ret2
  exact ⟨rfl,rfl⟩
def Ix (c:Int) (h:TX w t n now K F):
 Calls prog 112 #[.pointer (some ⟨t,0,none⟩),.int .i64 c] w λe w'=>e=.returned (.bool (U0 n now K c))/\w'=w:=by
 obtain ⟨sb,sg,tb,mb,S,G,W,O,b,a,o,rfl⟩:=h
 unfold U0
 by_cases hc:AJ n c
 ·rw [AHi hc]
  obtain ⟨k,rfl,hk⟩:=Ft hc
  rw [AD4]
  have ON:Hid (∀ _:Unit,_):=λ_=>Bf (S:=S) k (by omega) b.c1 (b.cw hk)
  have NX:Hid (∀ _:Unit,_):=λ_=>Iw (b.ws k hk) (ADd (a.len hk) (by omega))
  have NW:Hid (∀ _:Unit,_):=λ_=>Uw (b.ws k hk)
  have D:=wD (now:=now) (a.srt k hk)
  have r12:CV (K k)=12\/CV (K k)=0:=by unfold CV;split;exact Or.inl rfl;exact Or.inr rfl
  generalize S k=s at *
  generalize M8 (K k)=r1 at *
  generalize CV (K k)=r2 at *
  obtain ⟨rb,hrb⟩:∃ rb,rb=decide (GP now (K k)≠[]):=⟨_,rfl⟩
  rw [<- hrb]
  rcases r12 with rfl | rfl
  ·have e:rb=false:=by rw [hrb];simp;exact D.2 (Or.inl rfl)
   subst e
   clear b a o hc hk D hrb NW
   go_enter func112,ntmps112
   go_wp2_with fail
   refine (ON.out ()).mono ?_
   rintro e w' ⟨rfl,rfl⟩
   go_wp2_with fail
   refine (NX.out ()).mono ?_
   rintro e w' ⟨rfl,rfl⟩
   go_wp2
   go_ret
   exact ⟨rfl,rfl⟩
  ·have e:rb=decide (r1<=now):=by
    rw [hrb]
    apply AHp.2
    rw [ne_eq,D]
    omega
   subst e
   clear b a o hc hk D hrb
   go_enter func112,ntmps112
   go_wp2_with fail
   refine (ON.out ()).mono ?_
   rintro e w' ⟨rfl,rfl⟩
   go_wp2_with fail
   refine (NX.out ()).mono ?_
   rintro e w' ⟨rfl,rfl⟩
   go_wp2_with fail
   refine (NW.out ()).mono ?_
   rintro e w' ⟨rfl,rfl⟩
   go_wp2
   go_ret
   exact ⟨rfl,rfl⟩
 ·rw [AHh hc]
  have ON:Hid (∀ _:Unit,_):=λ_=>Ej c hc b.c1
  have NX:Hid (∀ w,_):=λw=>Yq w
  clear b a o hc
  go_enter func112,ntmps112
  go_wp2_with fail
  refine (ON.out ()).mono ?_
  rintro e w' ⟨rfl,rfl⟩
  go_wp2_with fail
  refine (NX.out _).mono ?_
  rintro e w' ⟨rfl,rfl⟩
  go_wp2
  go_ret
  exact ⟨rfl,rfl⟩
def WW.tks {w:World} {s:Nat} {now:Int} {L:List It} {F:List Nat} (h:WW w s now L F):Hw L:=by
 obtain ⟨mp,V,h,rfl⟩:=h
 exact h.tks
def Gn (K:Ks) (f t:Nat) (x:It):Ks:=up (up K t (ins x (K t))) f (Av x.2 (K f))
def oG (K:Ks) {f:Nat} (hn:f≠t) (x:It):up (up K f (Av x.2 (K f))) t (ins x (up K f (Av x.2 (K f)) t))=Gn K f t x:=by
 funext j
 unfold Gn
 rw [AL _ (λe=>hn e.symm)]
 by_cases e1:j=t
 ·subst e1
  rw [AX,AL _ (λe=>hn e.symm),AX]
 ·rw [AL _ e1]
  by_cases e2:j=f
  ·subst e2
   rw [AX,AX]
  ·rw [AL _ e2,AL _ e2,AL _ e1]
def ABd (h:Al n K) {f:Nat} (hf:f<n) (ht:t<n) (hn:f≠t) (hx:x∈K f):
 Al n (Gn K f t x)/\∀ j,AG n (Gn K f t x) j=if j=x.2 then some t else AG n K j:=by
 have ho:AG n K x.2=some f:=(Ah h).2 ⟨hf,D' hx⟩
 obtain ⟨a1,e1⟩:=Ys h hf ho
 have hr:=h.rg f hf x.2 (D' hx)
 obtain ⟨a2,e2⟩:=Yr a1 ht x.1 (id:=x.2) (by rw [e1,AHi rfl]) hr.1 hr.2
 have e3:=oG K hn x
 rw [show ((x.1,x.2):It)=x from rfl,e3] at a2 e2
 refine ⟨a2,λj=>?_⟩
 rw [e2,e1]
 by_cases q:j=x.2
 ·rw [AHi q,AHi q]
 ·rw [AHh q,AHh q,AHh q]
def WT (c d:Int) (hc:¬ (AJ n c/\AJ n d)) (h:TX w t n now K F):
 Calls prog 243 #[.pointer (some ⟨t,0,none⟩),.int .i64 c,.int .i64 d] w λe w'=>e=.returned (.tuple #[.int .i64 0,.int .i64 3])/\w'=w:=by
 obtain ⟨sb,sg,tb,mb,S,G,W,O,b,a,o,rfl⟩:=h
 by_cases h1:AJ n c
 ·have h2:¬ AJ n d:=λq=>hc ⟨h1,q⟩
  obtain ⟨k,rfl,hk⟩:=Ft h1
  have ON:Hid (∀ _:Unit,_):=λ_=>Bf (S:=S) k (by omega) b.c1 (b.cw hk)
  have O2:Hid (∀ _:Unit,_):=λ_=>Ej d h2 b.c1
  generalize S k=s at *
  clear b a o hc h1 h2 hk
  go_enter func243,ntmps243
  go_wp2_with fail
  refine (ON.out ()).mono ?_
  rintro e w' ⟨rfl,rfl⟩
  go_wp2_with fail
  refine (O2.out ()).mono ?_
  rintro e w' ⟨rfl,rfl⟩
  go_wp2
  go_ret2
  exact ⟨rfl,rfl⟩
 ·have ON:Hid (∀ _:Unit,_):=λ_=>Ej c h1 b.c1
  clear b a o hc h1
  go_enter func243,ntmps243
  go_wp2_with fail
  refine (ON.out ()).mono ?_
  rintro e w' ⟨rfl,rfl⟩
  go_wp2
  go_ret2
  exact ⟨rfl,rfl⟩
def eM (k:Nat) (hk:k<n) (h:TX w t n now K F):
 Calls prog 243 #[.pointer (some ⟨t,0,none⟩),.int .i64 (k:Int),.int .i64 (k:Int)] w λe w'=>e=.returned (.tuple #[.int .i64 0,.int .i64 2])/\w'=w:=by
 obtain ⟨sb,sg,tb,mb,S,G,W,O,b,a,o,rfl⟩:=h
 have ON:Hid (∀ _:Unit,_):=λ_=>Bf (S:=S) k (by omega) b.c1 (b.cw hk)
 generalize S k=s at *
 clear b a o hk
 go_enter func243,ntmps243
 go_wp2_with fail
 refine (ON.out ()).mono ?_
 rintro e w' ⟨rfl,rfl⟩
 go_wp2_with fail
 refine (ON.out ()).mono ?_
 rintro e w' ⟨rfl,rfl⟩
 go_wp2
 go_ret2
 exact ⟨rfl,rfl⟩
def Y4 (k j:Nat) (hk:k<n) (hj:j<n) (hn:k≠j) (h:TX w t n now K F) (hd:K k=[]):
 Calls prog 243 #[.pointer (some ⟨t,0,none⟩),.int .i64 (k:Int),.int .i64 (j:Int)] w λe w'=>e=.returned (.tuple #[.int .i64 0,.int .i64 12])/\∃ F',TX w' t n now K F'/\Mv w w' F F':=by
 have hx:=h
 obtain ⟨sb,sg,tb,mb,S,G,W,O,b,a,o,rfl⟩:=h
 have ON:Hid (∀ _:Unit,_):=λ_=>Bf (S:=S) k (by omega) b.c1 (b.cw hk)
 have O2:Hid (∀ _:Unit,_):=λ_=>Bf (S:=S) j (by omega) b.c1 (b.cw hj)
 have LI:Hid (∀ _:Unit,_):=λ_=>Ik (b.ws k hk) (ADd (a.len hk) (by omega))
 rw [hd] at LI
 have ST:Hid (∀ w',Below w.heap.size w w'->∃ F',TX w' t n now K F'/\Mv w w' (BY t sb sg tb mb n G) F'):=λw' k=>⟨_,hx.below k,Mv.below k _⟩
 have ne:((k:Int)==(j:Int))=false:=by simp;omega
 generalize S k=s at *
 generalize S j=s2 at *
 clear b a o hk hj hd hx hn
 go_enter func243,ntmps243
 go_wp2_with fail
 refine (ON.out ()).mono ?_
 rintro e w' ⟨rfl,rfl⟩
 go_wp2_with fail
 refine (O2.out ()).mono ?_
 rintro e w' ⟨rfl,rfl⟩
 go_wp2_with fail
 refine (LI.out ()).mono ?_
 rintro e w1 ⟨v,rfl,g⟩
 have FF:Hid _:=ST.out w1 g.bel
 obtain ⟨p,c',rfl⟩:=An g.own
 clear g
 go_wp2
 go_ret2
 exact ⟨rfl,FF.out⟩
def eN {j:Nat} (a:Al n K) (o:∀ i,1<=i->i<=48->O i=oc n K i) (hk:k<n) (hj:j<n) (hn:k≠j) (hx:x∈K k)
 (b:TB w t sb sg tb mb n (EL (EL (λ_=>now) j now) k now) S (Gn K k j x) G W O (if (cq n K x.2).isSome=true then Ay (oc n K) else Ay (oc n K)+1) (λi=>if i=x.2 then some (j:Int) else cq n K i)):
 TX w t n now (Gn K k j x) (BY t sb sg tb mb n G):=by
 rw [H5,H5] at b
 obtain ⟨a2,e2⟩:=ABd a hk hj hn hx
 have ho:AG n K x.2=some k:=(Ah a).2 ⟨hk,D' hx⟩
 have e3:∀ i,oc n K i=oc n (Gn K k j x) i:=λi=>by
  unfold oc
  rw [e2]
  by_cases q:(i:Int)=x.2
  ·rw [AHi q,q,ho];rfl
  ·rw [AHh q]
 have e4:(λi=>if i=x.2 then some (j:Int) else cq n K i)=cq n (Gn K k j x):=funext λi=>by
  unfold cq
  rw [e2]
  split <;> rfl
 have e5:(cq n K x.2).isSome=true:=by unfold cq;rw [ho];rfl
 rw [AHi e5,e4,nY e3] at b
 exact ⟨sb,sg,tb,mb,S,G,W,O,b,a2,λi i1 i2=>by rw [o i i1 i2,e3],rfl⟩
def eO (k j:Nat) (hk:k<n) (hj:j<n) (hn:k≠j) (h:TX w t n now K F) (hd:K k=x::R):
 Calls prog 243 #[.pointer (some ⟨t,0,none⟩),.int .i64 (k:Int),.int .i64 (j:Int)] w λe w'=>e=.returned (.tuple #[.int .i64 x.2,.int .i64 0])/\∃ F',TX w' t n now (Gn K k j x) F'/\Mv w w' F F':=by
 obtain ⟨sb,sg,tb,mb,S,G,W,O,b,a,o,rfl⟩:=h
 have ON:Hid (∀ _:Unit,_):=λ_=>Bf (S:=S) k (by omega) b.c1 (b.cw hk)
 have O2:Hid (∀ _:Unit,_):=λ_=>Bf (S:=S) j (by omega) b.c1 (b.cw hj)
 have LI:Hid (∀ _:Unit,_):=λ_=>Ik (b.ws k hk) (ADd (a.len hk) (by omega))
 have hx:x∈K k:=by rw [hd];simp
 have hr:=a.rg k hk x.2 (D' hx)
 have wfx:(Lit.int .i64 x.2).wf=true:=Be _ (by omega) (by omega)
 have n2:=b.n2
 have hT:AO x.1:=(b.ws k hk).tks x hx
 have wx:wn (K k) x.2=some x.1:=Kl (a.uni k hk) hx
 have hno:has (K j) x.2=false:=by
  cases e:has (K j) x.2 with
  | false=>rfl
  | true=>exact absurd (a.one k j hk hj x.2 (D' hx) e) hn
 have no:¬ (wn (K j) x.2).isSome=true:=by rw [show (wn (K j) x.2).isSome=false from hno];decide
 have hpos:1<=(ids (K k)).length:=by rw [hd];simp [ids]
 have hlen:(ids (K k)).length<=48:=by unfold ids;rw [ADz];exact a.len hk
 have CC:Hid (∀ w1 v,Gt w w1 v (ids (K k))->∃ g cap,v=.slice (some ⟨g,0,none⟩) (ids (K k)).length cap/\w1.cell? ⟨g,0,none⟩=some (.int .i64 x.2)/\
  Hid (Calls prog 303 #[.pointer (some ⟨S k,0,none⟩),.int .i64 x.2] w1 λe w'=>e=.returned (.tuple #[.int .i64 x.1,.bool true])/\w'=w1)/\
  Hid (Calls prog 265 #[.pointer (some ⟨S j,0,none⟩),.int .i64 x.2,.int .i64 x.1] w1 λe w2=>e=.returned (.int .i64 0)/\w2.cell? ⟨t,2,none⟩=some (.map (some mb))/\∃ w3,(Instr.mapUpdate 143 (.map (some mb)) (.int .i64 x.2) (.int .i64 (j:Int))).run prog w2=.ok () w3/\
   Hid (Calls prog 202 #[.pointer (some ⟨S k,0,none⟩),.int .i64 x.2] w3 λe w4=>e=.returned (.int .i64 0)/\∃ F',TX w4 t n now (Gn K k j x) F'/\Mv w w4 (BY t sb sg tb mb n G) F'))):=λw1 v gt=>by
  rcases gt.own.2 with ⟨_,hn⟩ | ⟨g,cap,cur,hv,hb,hh,_⟩
  ·omega
  ·have cy:w1.cell? ⟨g,0,none⟩=some (.int .i64 x.2):=by
    have:=gt.own
    subst hv
    have:=this.cellAt 0 (by omega)
    rw [this,hd]
    rfl
   have b1:=b.AA (Fr.AE gt.bel) (ADW _) (by simp)
   refine ⟨g,cap,hv,cy,?_,?_⟩
   ·refine (eE x.2 wfx (b1.ws k hk)).mono ?_
    rintro e w' ⟨rfl,rfl⟩
    refine ⟨?_,rfl⟩
    unfold DM Ct
    rw [wx]
    rfl
   ·refine (H3 x.2 x.1 wfx (b1.ws j hj) (ADd (a.len hj) (by omega))).mono ?_
    rintro e w2 ⟨rfl,F2,q2,v2⟩
    unfold Dn at q2
    rw [AHi hT,AHh no] at q2
    obtain ⟨b2,m2⟩:=b1.Ko hj q2 v2
    obtain ⟨w3,r3,M3,f3⟩:=GM (tm:=143) underlying3 underlying143 b2.mp (ADd (Ey _) (by omega)) (id:=x.2) wfx (c:=(j:Int)) (Be _ (by omega) (by omega))
    obtain ⟨b3,m3⟩:=b2.map M3 f3
    have q3:=b3.ws k hk
    rw [AL _ hn,H5] at q3
    refine ⟨?_,b2.c2,w3,r3,(Il x.2 wfx q3 (ADd (a.len hk) (by omega))).mono ?_⟩
    ·unfold BA
     rw [AHi hT,AHh no]
    ·rintro e w4 ⟨rfl,F4,q4,v4⟩
     obtain ⟨b4,m4⟩:=b3.Ko hk q4 v4
     refine ⟨?_,_,eN a o hk hj hn hx b4,(((Mv.below gt.bel _).trans m2).trans m3).trans m4⟩
     unfold kJ
     rw [wx]
     rfl
 have ne:((k:Int)==(j:Int))=false:=by simp;omega
 generalize (ids (K k))=D at *
 generalize D.length=ln at *
 generalize S k=s at *
 generalize S j=s2 at *
 generalize hy:x.2=y at *
 generalize hy1:x.1=y1 at *
 have hl2:(ln:Int)<=48:=by omega
 have hp1:0<ln:=by omega
 have hp2:¬ ln=0:=by omega
 have hp3:((ln:Int)==0)=false:=by simpa using hp2
 clear b a o hk hj hd hx hn wfx wx hno no hT hr n2 hpos hlen hy hy1
 go_enter func243,ntmps243
 go_wp2_with fail
 refine (ON.out ()).mono ?_
 rintro e w' ⟨rfl,rfl⟩
 go_wp2_with fail
 refine (O2.out ()).mono ?_
 rintro e w' ⟨rfl,rfl⟩
 go_wp2_with fail
 refine (LI.out ()).mono ?_
 rintro e w1 ⟨v,rfl,gt⟩
 obtain ⟨g,cap,rfl,cy,WN,AD⟩:=CC.out w1 v gt
 clear gt CC LI
 go_wp2_with fail
 refine WN.out.mono ?_
 rintro e w' ⟨rfl,rfl⟩
 go_wp2_with fail
 refine AD.out.mono ?_
 rintro e w2 ⟨rfl,d2,w3,r3,DR⟩
 go_wp2_with fail
 refine DR.out.mono ?_
 rintro e w4 ⟨rfl,FF⟩
 have FH:Hid _:=FF
 clear FF
 go_wp2
 go_ret2
 exact ⟨rfl,FH.out⟩
def Rl (n:Nat) (K:Ks) (c d:Int):Int:=if AJ n c/\AJ n d then (if c=d then 0 else match K c.toNat with | []=>0 | x::_=>x.2) else 0
def GQ (n:Nat) (K:Ks) (c d:Int):Int:=if AJ n c/\AJ n d then (if c=d then 2 else match K c.toNat with | []=>12 | _::_=>0) else 3
def DV (n:Nat) (K:Ks) (c d:Int):Ks:=if AJ n c/\AJ n d then (if c=d then K else match K c.toNat with | []=>K | x::_=>Gn K c.toNat d.toNat x) else K
def eP (c d:Int) (h:TX w t n now K F):
 Calls prog 243 #[.pointer (some ⟨t,0,none⟩),.int .i64 c,.int .i64 d] w λe w'=>e=.returned (.tuple #[.int .i64 (Rl n K c d),.int .i64 (GQ n K c d)])/\∃ F',TX w' t n now (DV n K c d) F'/\Mv w w' F F':=by
 unfold Rl GQ DV
 by_cases hc:AJ n c/\AJ n d
 ·rw [AHi hc,AHi hc,AHi hc]
  obtain ⟨k,rfl,hk⟩:=Ft hc.1
  obtain ⟨j,rfl,hj⟩:=Ft hc.2
  by_cases e:(k:Int)=j
  ·rw [AHi e,AHi e,AHi e]
   obtain rfl:k=j:=by omega
   refine (eM k hk h).mono ?_
   rintro e w' ⟨rfl,rfl⟩
   exact ⟨rfl,F,h,Mv.refl _ _⟩
  ·rw [AHh e,AHh e,AHh e,AD4,AD4]
   cases hd:K k with
   | nil=>exact Y4 k j hk hj (by omega) h hd
   | cons x R=>exact eO k j hk hj (by omega) h hd
 ·rw [AHh hc,AHh hc,AHh hc]
  refine (WT c d hc h).mono ?_
  rintro e w' ⟨rfl,rfl⟩
  exact ⟨rfl,F,h,Mv.refl _ _⟩
def Pi (n:Nat) (now:Int) (K:Ks) (c:Int):Int:=if AJ n c then fiN now (K c.toNat) else 0
def kN (n:Nat) (now:Int) (K:Ks) (c:Int):Int:=if AJ n c then fiE now (K c.toNat) else 3
def Rn (n:Nat) (now:Int) (K:Ks) (c:Int):Ks:=if AJ n c then vY now K c.toNat else K
def eQ (c:Int) (h:TX w t n now K F):
 Calls prog 193 #[.pointer (some ⟨t,0,none⟩),.int .i64 c] w λe w'=>e=.returned (.tuple #[.int .i64 (Pi n now K c),.int .i64 (kN n now K c)])/\∃ F',TX w' t n now (Rn n now K c) F'/\Mv w w' F F':=by
 unfold Pi kN Rn
 by_cases hc:AJ n c
 ·rw [AHi hc,AHi hc,AHi hc]
  obtain ⟨k,rfl,hk⟩:=Ft hc
  rw [AD4]
  unfold fiN fiE vY
  cases hd:GP now (K k) with
  | nil=>exact Y2 k hk h hd
  | cons x R=>exact eL k hk h hd
 ·rw [AHh hc,AHh hc,AHh hc]
  refine (WS c hc h).mono ?_
  rintro e w' ⟨rfl,rfl⟩
  exact ⟨rfl,F,h,Mv.refl _ _⟩
end Go.Proofs.YtdlhlfpigcgapaaGreatDoor.Tim

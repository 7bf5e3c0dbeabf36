import Derived.Test.YtdlhlfpigcgapaaGreatDoorAZal
import Derived.Test.YtdlhlfpigcgapaaGreatDoorAXa
import Derived.Deep.RegionHeld3
set_option maxRecDepth 100000
set_option maxHeartbeats 16000000
set_option linter.unusedVariables false
set_option linter.unusedSimpArgs false
set_option linter.defProp false
namespace Go.Proofs.YtdlhlfpigcgapaaGreatDoor.Idl
open Go.Proofs.Tryz
open Go.ChangeShapes Go.WideShapes Go.ChangeAt Go.RowKit
variable {n:Nat} {b:Int}
structure Wy where
 ex:Int
 le:Int
 pw:Int
def wz:Wy:=⟨0,0,0⟩
def wy:Hj Wy where
 n:=3
 f:=λx=>[.int .i64 x.ex,.int .i64 x.le,.int .i64 x.pw]
 z:=wz
 len:=λ_=>rfl
 one:=λx u hu=>by
  simp only [AD0,ADt,or_false] at hu
  rcases hu with rfl | rfl | rfl <;> rfl
 pos:=by decide
def QC {w:World} {a:Option Addr} {cap:Nat} {Y:List Wy} (h:B9 wy w (.slice a n cap) Y) {k:Nat} (hk:k<Y.length):
 ∃ b off,a=some ⟨b,off,none⟩/\b<w.heap.size/\w.cell? ⟨b,off+k*3,none⟩=some (.int .i64 (Y.getD k wz).ex)/\w.cell? ⟨b,off+k*3+1,none⟩=some (.int .i64 (Y.getD k wz).le)/\w.cell? ⟨b,off+k*3+2,none⟩=some (.int .i64 (Y.getD k wz).pw):=by
 obtain ⟨b,off,e,hb,d⟩:=Xs h hk
 exact ⟨b,off,e,hb,d 0 (by decide),d 1 (by decide),d 2 (by decide)⟩
def Sf (Y:List Wy) (r l:Int) (j:Nat):Prop:=(Y.getD j wz).ex<=l/\(Y.getD j wz).le<=r
def QD (Y:List Wy) (r l:Int) (n c:Nat):Prop:=(c=0/\∀ j,1<=j->j<n->¬ Sf Y r l j)\/(1<=c/\c<n/\Sf Y r l c/\∀ j,c<j->j<n->¬ Sf Y r l j)
def gI (Y:List Wy) (r l:Int):QD Y r l 0 0:=Or.inl ⟨rfl,λj _ h=>by omega⟩
def yG (Y:List Wy) (at_ t:Int):Int:=if at_<0\/(Y.length:Int)<=at_\/t<0\/2147483648<t\/(Y.getD at_.toNat wz).pw<0\/2147483648<(Y.getD at_.toNat wz).pw then 0 else (Y.getD at_.toNat wz).pw*t
def Sg {a:Int} (h1:0<=a) (h2:a<=2147483648) (h3:0<=b) (h4:b<=2147483648):0<=a*b/\a*b<=4611686018427387904:=by
 have:=Int.mul_le_mul h2 h4 h3 (by omega)
 exact ⟨Int.mul_nonneg h1 h3,by omega⟩
def gJ {a:Int} (h1:0<=a) (h2:a<=2147483648) (h3:0<=b) (h4:b<=2147483648):wrap64 (a*b)=a*b:=by
 have:=Sg h1 h2 h3 h4
 generalize a*b=c at *
 unfold wrap64
 omega
def Nb (now due:Int) (known:Bool):Int:=if known=false then 1073741824 else if now<0\/due<=now then 0 else if 1073741824<due-now then 1073741824 else due-now
def wt:List Wy:=[⟨0,0,100⟩,⟨2,10,60⟩,⟨10,50,25⟩,⟨50,400,5⟩]
def Nc (w:World):
 Calls prog 120 #[] w λe w'=>∃ v,e=.returned v/\B9 wy w' v wt/\Below w.heap.size w w':=by
 have R:Hid (B9 wy (w.alloc (.cells (wy.all wt).toArray 274)) (.slice (some ⟨w.heap.size,0,none⟩) 4 4) wt):=cU w wt _ 4 4 rfl
 have B:Hid (∀ o,Below w.heap.size w (w.alloc o)):=λo=>(Below.refl _ _).alloc (ADW _) o
 go_enter func120,ntmps120
 go_wp2
 go_ret
 exact ⟨_,rfl,R.out,B.out _⟩
def Tx (Y:List Wy) (v:Value) (r m:Int) (w:World) (h:B9 wy w v Y) (hl0:(Y.length:Int)<=5864062014805):
 Calls prog 119 #[v,.int .i64 r,.int .i64 m] w λe w'=>(∃ c:Nat,e=.returned (.int .i64 (c:Int))/\QD Y r m Y.length c)/\w'=w:=by
 obtain ⟨a,cap,rfl⟩:=h.shape
 have HR:Hid (B9 wy w (.slice a Y.length cap) Y):=h
 obtain ⟨l,hl⟩:∃ l,Y.length=l:=⟨_,rfl⟩
 have HN:Hid (Y.length=l):=hl
 rw [hl] at HR hl0 ⊢
 clear h hl
 by_cases h0:l=0
 ·subst h0
  have C0:Hid (QD Y r m 0 0):=gI Y r m
  go_enter func119,ntmps119
  go_wp2
  go_loopw [7] (λi wr=>i=.int .i64 (-1)/\wr=w) (λi _=>0)
  case atStart=>exact ⟨rfl,rfl⟩
  case round=>
   obtain ⟨rfl,rfl⟩:=hrel
   go_wp2
   go_ret
   exact ⟨⟨0,rfl,C0.out⟩,rfl⟩
 ·obtain ⟨n,rfl⟩:∃ n,l=n+1:=⟨l-1,by omega⟩
  have hn:((n+1:Nat):Int)-1=(n:Int):=by omega
  have hn0:(n:Int)<=5864062014804:=by omega
  obtain ⟨l,hl⟩:∃ l:Nat,n+1=l:=⟨_,rfl⟩
  have HL:Hid (n+1=l):=hl
  rw [hl] at HR HN hl0 hn ⊢
  clear h0 hl
  go_enter func119,ntmps119
  go_wp2
  go_loopw [7] (λi wr=>∃ k:Nat,(k:Int)<=n/\(∀ j,k<j->j<l->¬ Sf Y r m j)/\wr=w/\i=.int .i64 k) (λi _=>(intOf i).toNat)
  case atStart=>exact ⟨n,by omega,λj h1 h2=>by have:=HL.out;omega,rfl,rfl⟩
  case round=>
   obtain ⟨k,hk,hf,rfl,rfl⟩:=hrel
   have HF:Hid _:=hf
   clear hf
   by_cases e:(0:Int)<k
   ·obtain ⟨b,off,rfl,-,c0,c1,-⟩:=QC HR.out (k:=k) (by have:=HN.out;have:=HL.out;omega)
    have OK:Hid (Sf Y r m k↔(Y.getD k wz).ex<=m/\(Y.getD k wz).le<=r):=Iff.rfl
    generalize (Y.getD k wz).ex=x at *
    generalize (Y.getD k wz).le=y at *
    have kl:(k:Int)<l:=by have:=HL.out;omega
    obtain ⟨p,hp⟩:∃ p:Nat,k=p+1:=⟨k-1,by omega⟩
    have hpi:(k:Int)-1=(p:Int):=by omega
    have HP:Hid (k=p+1):=hp
    clear hp
    by_cases h1:x<=m
    ·by_cases h2:y<=r
     ·have C0:Hid (QD Y r m l k):=Or.inr ⟨by omega,by omega,OK.out.2 ⟨h1,h2⟩,HF.out⟩
      go_wp2
      go_ret
      exact ⟨⟨k,rfl,C0.out⟩,rfl⟩
     ·have G:Hid (∀ j,p<j->j<l->¬ Sf Y r m j):=λj j1 j2=>by
       by_cases ej:j=k
       ·subst ej;exact λq=>h2 (OK.out.1 q).2
       ·exact HF.out j (by have:=HP.out;omega) j2
      have hpn:(p:Int)<=n:=by omega
      go_wp2
      go_roundw
      case rel=>exact ⟨p,by omega,G.out,trivial,by go_num⟩
      case measure=>simp [intOf];omega
    ·have G:Hid (∀ j,p<j->j<l->¬ Sf Y r m j):=λj j1 j2=>by
      by_cases ej:j=k
      ·subst ej;exact λq=>h1 (OK.out.1 q).1
      ·exact HF.out j (by have:=HP.out;omega) j2
     have hpn:(p:Int)<=n:=by omega
     go_wp2
     go_roundw
     case rel=>exact ⟨p,by omega,G.out,trivial,by go_num⟩
     case measure=>simp [intOf];omega
   ·obtain rfl:k=0:=by omega
    have C0:Hid (QD Y r m l 0):=Or.inl ⟨rfl,λj h1 h2=>HF.out j (by omega) h2⟩
    go_wp2
    go_ret
    exact ⟨⟨0,rfl,C0.out⟩,rfl⟩
def Ty (n:Int) (w:World):
 Calls prog 327 #[.int .i64 n] w λe w'=>e=.returned (.bool (decide (0<=n/\n<=2147483648)))/\w'=w:=by
 by_cases h1:0<=n
 ·by_cases h2:n<=2147483648
  ·rw [AHj ⟨h1,h2⟩]
   go_enter func327,ntmps327
   go_wp2
   go_ret
   exact ⟨rfl,rfl⟩
  ·rw [AHk (λq=>h2 q.2)]
   go_enter func327,ntmps327
   go_wp2
   go_ret
   exact ⟨rfl,rfl⟩
 ·rw [AHk (λq=>h1 q.1)]
  go_enter func327,ntmps327
  go_wp2
  go_ret
  exact ⟨rfl,rfl⟩
def Sh (a b:Int) (k:Bool) (w:World) (hb:b<=9223372036854775807):
 Calls prog 117 #[.int .i64 a,.int .i64 b,.bool k] w λe w'=>e=.returned (.int .i64 (Nb a b k))/\w'=w:=by
 cases k
 ·rw [show Nb a b false=1073741824 from AHi rfl]
  go_enter func117,ntmps117
  go_wp2
  go_ret
  exact ⟨rfl,rfl⟩
 by_cases h1:a<0
 ·rw [show Nb a b true=0 by rw [Nb,AHh (by simp),AHi (Or.inl h1)]]
  go_enter func117,ntmps117
  go_wp2
  go_ret
  exact ⟨rfl,rfl⟩
 by_cases h2:b<=a
 ·rw [show Nb a b true=0 by rw [Nb,AHh (by simp),AHi (Or.inr h2)]]
  go_enter func117,ntmps117
  go_wp2
  go_ret
  exact ⟨rfl,rfl⟩
 have e:Nb a b true=if 1073741824<b-a then 1073741824 else b-a:=by rw [Nb,AHh (by simp),AHh (by omega)]
 by_cases h3:1073741824<b-a
 ·rw [e,AHi h3]
  clear e
  go_enter func117,ntmps117
  go_wp2
  go_ret
  exact ⟨rfl,rfl⟩
 ·rw [e,AHh h3]
  clear e
  go_enter func117,ntmps117
  go_wp2
  go_ret
  exact ⟨rfl,rfl⟩
def aH (Y:List Wy) (v:Value) (i t:Int) (w:World) (h:B9 wy w v Y):
 Calls prog 273 #[v,.int .i64 i,.int .i64 t] w λe w'=>e=.returned (.int .i64 (yG Y i t))/\w'=w:=by
 obtain ⟨a,cap,rfl⟩:=h.shape
 have C1:Hid (∀ n w,_):=λn w=>Ty n w
 have HR:Hid (B9 wy w (.slice a Y.length cap) Y):=h
 have E:Hid (yG Y i t=if i<0\/(Y.length:Int)<=i\/t<0\/2147483648<t\/(Y.getD i.toNat wz).pw<0\/2147483648<(Y.getD i.toNat wz).pw then 0 else (Y.getD i.toNat wz).pw*t):=rfl
 obtain ⟨l,hl⟩:∃ l,Y.length=l:=⟨_,rfl⟩
 have HN:Hid (Y.length=l):=hl
 rw [hl] at HR E ⊢
 generalize yG Y i t=c at *
 clear h hl
 by_cases h1:i<0
 ·obtain rfl:c=0:=E.out.trans (AHi (Or.inl h1))
  go_enter func273,ntmps273
  go_wp2
  go_ret
  exact ⟨rfl,rfl⟩
 by_cases h2:(l:Int)<=i
 ·obtain rfl:c=0:=E.out.trans (AHi (Or.inr (Or.inl h2)))
  go_enter func273,ntmps273
  go_wp2
  go_ret
  exact ⟨rfl,rfl⟩
 by_cases h3:¬ (0<=t/\t<=2147483648)
 ·obtain rfl:c=0:=E.out.trans (AHi (by omega))
  have C2:Hid (∀ w,_):=λw=>C1.out t w
  rw [AHk h3] at C2
  clear h3
  go_enter func273,ntmps273
  go_wp2_with fail
  refine (C2.out _).mono ?_
  rintro e w' ⟨rfl,rfl⟩
  go_wp2
  go_ret
  exact ⟨rfl,rfl⟩
 have h3:0<=t/\t<=2147483648:=Decidable.not_not.1 h3
 have C2:Hid (∀ w,_):=λw=>C1.out t w
 rw [AHj h3] at C2
 obtain ⟨k,rfl⟩:=AD8 (show 0<=i by omega)
 obtain ⟨b,off,rfl,-,-,-,c2⟩:=QC HR.out (k:=k) (by have:=HN.out;omega)
 rw [AD4] at E
 have C3:Hid (∀ w,_):=λw=>C1.out (Y.getD k wz).pw w
 generalize (Y.getD k wz).pw=p at *
 have kl:(k:Int)<l:=by omega
 clear h1 h2
 by_cases h4:¬ (0<=p/\p<=2147483648)
 ·obtain rfl:c=0:=E.out.trans (AHi (by omega))
  rw [AHk h4] at C3
  clear h4
  go_enter func273,ntmps273
  go_wp2_with fail
  refine (C2.out _).mono ?_
  rintro e w' ⟨rfl,rfl⟩
  go_wp2_with fail
  refine (C3.out _).mono ?_
  rintro e w' ⟨rfl,rfl⟩
  go_wp2
  go_ret
  exact ⟨rfl,rfl⟩
 have h4:0<=p/\p<=2147483648:=Decidable.not_not.1 h4
 rw [AHj h4] at C3
 obtain rfl:c=p*t:=E.out.trans (AHh (by omega))
 have mw:=gJ h4.1 h4.2 h3.1 h3.2
 have mf:=Sg h4.1 h4.2 h3.1 h3.2
 clear h3 h4 E
 go_enter func273,ntmps273
 go_wp2_with fail
 refine (C2.out _).mono ?_
 rintro e w' ⟨rfl,rfl⟩
 go_wp2_with fail
 refine (C3.out _).mono ?_
 rintro e w' ⟨rfl,rfl⟩
 go_wp2
 go_ret
 exact ⟨rfl,rfl⟩
end Go.Proofs.YtdlhlfpigcgapaaGreatDoor.Idl

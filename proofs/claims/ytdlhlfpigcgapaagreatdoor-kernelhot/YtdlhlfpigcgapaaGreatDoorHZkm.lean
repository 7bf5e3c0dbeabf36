import Derived.Test.YtdlhlfpigcgapaaGreatDoorHZal
import Derived.Test.YtdlhlfpigcgapaaGreatDoorHZkg
set_option maxRecDepth 100000
set_option maxHeartbeats 16000000
set_option linter.unusedVariables false
set_option linter.unusedSimpArgs false
set_option linter.defProp false
namespace Go.Proofs.YtdlhlfpigcgapaaGreatDoor.Krn
open Go.Proofs.Tryz
open Mm
variable {c:Nat}
section
variable {n:Nat} {S T:KS} {e:Ev} {L:List Rec} {g:Nat}
def AG2 (o:Out n S e T L):(L=[]/\e.kind=1/\T.on=S.on/\T.R.isSome=S.R.isSome)\/(∃ x,L=[x]/\x.kind≠7/\(¬ ((e.kind=23\/e.kind=24)/\x.why=0))/\T.on=S.on/\T.R.isSome=S.R.isSome)
 \/(∃ x,L=[x]/\x.kind≠7/\(e.kind=23\/e.kind=24)/\x.why=0/\T.on=S.on/\S.R.isSome=false/\T.R.isSome=true)
 \/(∃ x,L=[x]/\x.kind=7/\e.kind=1/\S.R.isSome=true/\T.R.isSome=false/\((x.why=11/\T.on=S.on)\/(x.why=0/\tb S.on x.cpu=true/\T.on=nt S.on (bv x.cpu))\/(x.why=0/\tb S.on x.cpu=false/\T.on=wl S.on [x.cpu]))):=by
 have sm:∀ {A B:Option Hp.Rq},rk A=rk B->A.isSome=B.isSome:=λ{A B} h=>by cases A <;> cases B <;> simp_all [rk]
 have s1:∀ {A:Option Hp.Rq} {p:Bool×Int},rk A=some p->A.isSome=true:=λ{A p} h=>by cases A <;> simp_all [rk]
 have s0:∀ {A:Option Hp.Rq},rk A=none->A.isSome=false:=λ{A} h=>by cases A <;> simp_all [rk]
 cases o with
 | Bc x hL k1 k2 ke hc ha on R ct=>exact Or.inr (Or.inl ⟨x,hL,by omega,by omega,on,sm R⟩)
 | none hL ke on R ct=>exact Or.inl ⟨hL,ke,on,sm R⟩
 | ret x hL k no on R ct=>exact Or.inr (Or.inl ⟨x,hL,by omega,no,on,sm R⟩)
 | beg x hL k ke w R0 on R ct=>exact Or.inr (Or.inr (Or.inl ⟨x,hL,by omega,ke,w,on,s0 R0,s1 R⟩))
 | hot u c2 w hL ke R0 R hc on ct=>
  refine Or.inr (Or.inr (Or.inr ⟨_,hL,rfl,ke,s1 R0,by rw [R];rfl,?_⟩))
  rcases on with ⟨w11,on⟩ | ⟨w0,on⟩
  ·exact Or.inl ⟨w11,on⟩
  ·cases t:tb S.on c2
   ·rw [t,AHh (by decide)] at on
    exact Or.inr (Or.inr ⟨w0,by first | exact t | rfl,on⟩)
   ·rw [t,AHi rfl] at on
    exact Or.inr (Or.inl ⟨w0,by first | exact t | rfl,on⟩)
end
open Go.ChangeShapes Go.WideShapes Go.ChangeAt Go.RowKit
variable {w:World} {k:Nat}
section
variable {B:Nat} {w0:World} {A:List (Nat×List Value×TypeId)} {a:KA} {m m':Nat} {S S':KS} {w w':World}
def LI.alloc {n k:Nat} {wr w:World} {X:List (Nat×List Value×TypeId)} (h:LI n w a k X S wr) (o:Obj):LI n w a k X S (wr.alloc o):=⟨h.kx.alloc o,h.inv,h.an⟩
def AGK {len cap:Nat} {p:Option Addr} {Z:Nat->Nat->Int} (h:Aff.TRow w (.slice p len cap) len [1,1,1,2,1] Z) (z:∀ i,i<len->∀ j,j<[1,1,1,2,1].length->Aff.kwf ([1,1,1,2,1].getD j 1) (Z i j)) (hk:(k:Int)<len):
 ∃ b off,∃ e:Ev,p=some ⟨b,off,none⟩/\AI e/\∀ wr,Below w.heap.size w wr->wr.cell? ⟨b,off+k*5,none⟩=some (.int .i64 e.kind)/\wr.cell? ⟨b,off+k*5+1,none⟩=some (.int .i64 e.cpu)/\wr.cell? ⟨b,off+k*5+2,none⟩=some (.int .i64 e.id)/\wr.cell? ⟨b,off+k*5+3,none⟩=some (.int .u64 (e.mask:Int))/\wr.cell? ⟨b,off+k*5+4,none⟩=some (.int .i64 e.n):=by
 obtain ⟨b,off,e,_⟩:=Aff.aK h (Below.refl _ _) hk
 have q:=z k (by omega)
 have q3:(Lit.int .u64 (Z k 3)).wf=true:=q 3 (by simp)
 have q3:0<=Z k 3/\Z k 3<18446744073709551616:=by
  simp [Lit.wf,IntKind.min,IntKind.max,IntKind.signed,IntKind.bits] at q3
  omega
 refine ⟨b,off,⟨Z k 0,Z k 1,Z k 2,(Z k 3).toNat,Z k 4⟩,e,⟨q 0 (by simp),q 1 (by simp),q 2 (by simp),q 4 (by simp),by simp only;omega⟩,λwr hb=>?_⟩
 obtain ⟨b2,off2,e2,c⟩:=Aff.aK h hb hk
 rw [e] at e2
 cases e2
 refine ⟨c 0 (by simp),c 1 (by simp),c 2 (by simp),?_,c 4 (by simp)⟩
 have:=c 3 (by simp)
 simp only [show (((Z k 3).toNat:Nat):Int)=Z k 3 by omega]
 exact this
end
end Go.Proofs.YtdlhlfpigcgapaaGreatDoor.Krn

import Derived.Test.YtdlhlfpigcgapaaGreatDoorAZal
import Derived.Test.YtdlhlfpigcgapaaGreatDoorAZkg
set_option maxRecDepth 100000
set_option maxHeartbeats 16000000
set_option linter.unusedVariables false
set_option linter.unusedSimpArgs false
set_option linter.defProp false
namespace Go.Proofs.YtdlhlfpigcgapaaGreatDoor.Krn
open Go.Proofs.Tryz
open Mm
variable {c:Nat}
section
variable {n:Nat} {S T:KS} {e:Ev} {L:List Rec} {g:Nat}
def AG1 (o:Out n S e T L):L=[]\/(∃ x,L=[x]/\(2<=x.kind/\x.kind<=6)/\e.kind=1/\x.cpu=e.cpu/\tb S.ac x.cpu=true)\/(∃ x,L=[x]/\(x.kind=1\/x.kind=7)):=by
 cases o with
 | Bc x hL k1 k2 ke hc ha on R ct=>exact Or.inr (Or.inl ⟨x,hL,⟨k1,k2⟩,ke,hc,by rw [hc];exact ha⟩)
 | none hL ke on R ct=>exact Or.inl hL
 | ret x hL k no on R ct=>exact Or.inr (Or.inr ⟨x,hL,Or.inl k⟩)
 | beg x hL k ke w R0 on R ct=>exact Or.inr (Or.inr ⟨x,hL,Or.inl k⟩)
 | hot u c2 w hL ke R0 R hc on ct=>exact Or.inr (Or.inr ⟨_,hL,Or.inr rfl⟩)
def AGJ (i:Inv n S):nt S.ac S.on=0:=by
 apply jK (DZ _ _) (by decide)
 intro c
 rw [Ek.I4 _ _ _ i.b.on64 i.ac.1,Aff.Ou]
 cases t:tb S.ac c
 ·rfl
 ·rw [i.sub c t];rfl
end
open Go.ChangeShapes Go.WideShapes Go.ChangeAt Go.RowKit
variable {w:World} {k:Nat}
section
variable {B:Nat} {w0:World} {A:List (Nat×List Value×TypeId)} {a:KA} {m m':Nat} {S S':KS} {w w':World}
def LI.lS {n:Nat} {v wr w':World} {X:List (Nat×List Value×TypeId)} (h:LI n w a k X S wr) (f:Below v.heap.size v w') (s:Sm v wr):LI n w a k X S w':=⟨(h.kx.sm s).below f,h.inv,h.an⟩
def ABH {x y:Nat} (w:World) (hx:x<18446744073709551616) (hy:y<18446744073709551616) (q:nt x y=0):Calls prog 13 #[.int .u64 (x:Int),.int .u64 (y:Int)] w λe w'=>e=.returned (.bool true)/\w'=w:=by
 have C:=LA x y w hx hy
 rw [q] at C
 exact C
def AGK {len cap:Nat} {p:Option Addr} {Z:Nat->Nat->Int} (h:Aff.TRow w (.slice p len cap) len [1,1,1,2,1] Z) (z:∀ i,i<len->∀ j,j<[1,1,1,2,1].length->Aff.kwf ([1,1,1,2,1].getD j 1) (Z i j)) (hk:(k:Int)<len):
 ∃ b off,∃ e:Ev,p=some ⟨b,off,none⟩/\AI e/\∀ wr,Below w.heap.size w wr->wr.cell? ⟨b,off+k*5,none⟩=some (.int .i64 e.kind)/\wr.cell? ⟨b,off+k*5+1,none⟩=some (.int .i64 e.cpu)/\wr.cell? ⟨b,off+k*5+2,none⟩=some (.int .i64 e.id)/\wr.cell? ⟨b,off+k*5+3,none⟩=some (.int .u64 (e.mask:Int))/\wr.cell? ⟨b,off+k*5+4,none⟩=some (.int .i64 e.n):=by
 obtain ⟨b,off,e,_⟩:=Aff.aK h (Below.refl _ _) hk
 have q:=z k (by omega)
 have q3:(Lit.int .u64 (Z k 3)).wf=true:=q 3 (by simp)
 have q3:0<=Z k 3/\Z k 3<18446744073709551616:=by
  simp [Lit.wf,IntKind.min,IntKind.max,IntKind.signed,IntKind.bits] at q3
  omega
 refine ⟨b,off,⟨Z k 0,Z k 1,Z k 2,(Z k 3).toNat,Z k 4⟩,e,⟨q 0 (by simp),q 1 (by simp),q 2 (by simp),q 4 (by simp),by simp only;omega⟩,λwr hb=>?_⟩
 obtain ⟨b2,off2,e2,c⟩:=Aff.aK h hb hk
 rw [e] at e2
 cases e2
 refine ⟨c 0 (by simp),c 1 (by simp),c 2 (by simp),?_,c 4 (by simp)⟩
 have:=c 3 (by simp)
 simp only [show (((Z k 3).toNat:Nat):Int)=Z k 3 by omega]
 exact this
end
end Go.Proofs.YtdlhlfpigcgapaaGreatDoor.Krn

import Derived.Test.YtdlhlfpigcgapaaGreatDoorZal
import Derived.Test.YtdlhlfpigcgapaaGreatDoorZkg
import Derived.LoopN
set_option maxRecDepth 100000
set_option maxHeartbeats 16000000
set_option linter.unusedVariables false
set_option linter.unusedSimpArgs false
set_option linter.defProp false
namespace Go.Proofs.YtdlhlfpigcgapaaGreatDoor.Krn
open Go.Proofs.Tryz
open Go.ChangeShapes Go.WideShapes Go.ChangeAt Go.RowKit
open Mm
variable {s:Int} {n:Nat} {S:KS}
def ABL {T:KS} {e:Ev} {L:List Rec} (o:Out n S e T L) (c:Bl S.ct s) (hs:s<1000000):(L=[]/\Bl T.ct s)\/(∃ x,L=[x]/\(2<=x.kind/\x.kind<=6)/\Bl T.ct (s+1))\/(∃ x,L=[x]/\(x.kind=1\/x.kind=7)/\Bl T.ct s):=by
 cases o with
 | Bc x hL k1 k2 ke hc ha on R ct=>exact Or.inr (Or.inl ⟨x,hL,⟨k1,k2⟩,ct s c hs⟩)
 | none hL ke on R ct=>exact Or.inl ⟨hL,ct s c⟩
 | ret x hL k no on R ct=>exact Or.inr (Or.inr ⟨x,hL,Or.inl k,ct s c⟩)
 | beg x hL k ke w R0 on R ct=>exact Or.inr (Or.inr ⟨x,hL,Or.inl k,ct s c⟩)
 | hot u c2 w hL ke R0 R hc on ct=>exact Or.inr (Or.inr ⟨_,hL,Or.inr rfl,ct s c⟩)
def tV (n:Nat):Bl (new n).ct 0:=by
 refine ⟨λx hx=>?_,?_,by decide⟩
 ·have:=AFb hx
  omega
 ·simp only [new]
  induction n with
  | zero=>rfl
  | succ n ih=>rw [AEw,AFD,ih];rfl
def ABM {k:Nat} {w wr:World} {a:KA} {X:List (Nat×List Value×TypeId)} (h:LI n w a k X S wr) (c:Bl S.ct s):Calls prog 24 #[.pointer (some ⟨a.ct,0,none⟩)] wr λe w'=>e=.returned (.tuple #[.int .i64 s,.int .i64 0])/\w'=wr:=by
 obtain ⟨F,K,_⟩:=h.kx.ex
 have p9:=K.p 9 (by decide)
 simp only [Part] at p9
 obtain ⟨g,sl,_⟩:=p9
 have p:0<=S.ct.sum:=by
  have:=Kj c.1 0
  have:=pos_at c.1 0
  omega
 have C:=Spl.pF wr sl
 have e1:Pm.fv S.ct.sum=s:=by
  unfold Pm.fv
  rw [a7 (by have:=c.2;omega)]
  exact c.2.1
 have e2:Pm.fe S.ct.sum=0:=by
  unfold Pm.fe
  rw [a7 (by have:=c.2;omega)]
 rw [e1,e2] at C
 exact C
theorem counts_walk (a0:Int) (a1:Option Addr) (len1 cap1:Nat) (X1:Nat->Nat->Int) (w:World) (w0:(Lit.int .i64 a0).wf=true) (w1:Aff.TRow w (.slice a1 len1 cap1) len1 [1,1,1,2,1] X1) (z1:∀ i,i<len1->∀ j,j<[1,1,1,2,1].length->Aff.kwf ([1,1,1,2,1].getD j 1) (X1 i j)) (ht:A9 w) (hs:0<w.heap.size):
 Calls prog 6 #[.int .i64 a0,.slice a1 len1 cap1] w λe w'=>e=.returned (.bool true)/\Below w.heap.size w w':=by
 have KN:Hid (∀ u,Below w.heap.size w u->_):=λu b=>cP u (Df ht hs (Fr.AE b) (by simp)) (by have:=b.size;omega)
 have g0:=ACY w0
 by_cases g:a0<1\/(1<=a0/\64<a0)
 ·clear w1 z1 w0 g0
  have CB:Hid (∀ _:Unit,_):=λ_=>cQ a0 w g
  rcases g with g | ⟨g,g2⟩
  all_goals (
   go_enter func6,ntmps6
   go_wp2_with fail
   refine (CB.out ()).mono ?_
   rintro e u1 ⟨rfl,rfl⟩
   go_wp2_with fail
   refine (KN.out _ (Below.refl _ _)).mono ?_
   rintro e u2 ⟨rfl,b2⟩
   go_wp2
   go_ret
   exact ⟨rfl,b2⟩)
 ·obtain ⟨n,rfl⟩:=AD8 (show 0<=a0 by omega)
  have CN:Hid (∀ _:Unit,_):=λ_=>lT n w ht hs (by omega) (by omega)
  have HT:Hid (∀ (k:Nat) (a:KA) (X:List (Nat×List Value×TypeId)) (S:KS) (wr:World),LI n w a k X S wr->(k:Int)<len1->_):=λk a X S wr l hk=>ACX (k:=k) w1 z1 l.bel hk
  have LN:Hid (∀ (a:KA) (wr:World),KX w.heap.size w [] a 0 (new n) wr->a.n=n->LI n w a 0 [] (new n) wr):=λa wr h e=>ABK h e (by omega) (by omega)
  clear w1 z1 w0
  go_enter func6,ntmps6
  go_wp2_with fail
  refine (CN.out ()).mono ?_
  rintro e u1 ⟨a,rfl,an,h1⟩
  have P0:Hid (LI n w a 0 [] (new n) u1):=LN.out a u1 h1 an
  clear h1 LN CN ht hs an
  go_wp2
  go_loopw [7,8] (λmv iv wr=>∃ (k:Nat) (s:Int) (S:KS),(k:Int)<=len1/\(k:Int)<=300/\0<=s/\s<=k/\mv=.int .i64 s/\iv=.int .i64 k/\Hid (LI n w a k [] S wr/\Bl S.ct s)) (λ_ i _=>len1-(intOf i).toNat)
  case atStart=>exact ⟨0,0,_,by omega,by omega,by omega,by omega,rfl,rfl,⟨P0.out,tV n⟩⟩
  case round=>
   obtain ⟨k,s,S,hk,hk3,s0,sk,rfl,rfl,p⟩:=hrel
   clear P0
   have LV:∀ c:¬ ((k:Int)<len1/\(k:Int)<300),((¬ (k:Int)<len1))\/((k:Int)<len1/\¬ (k:Int)<300):=by omega
   by_cases c:(k:Int)<len1/\(k:Int)<300
   ·obtain ⟨c1,c2⟩:=c
    clear LV
    obtain ⟨b,off,e,rfl,ok,d0,d1,d2,d3,d4⟩:=HT.out k a [] S wr p.out.1 c1
    have DS:Hid (∀ _:Unit,_):=λ_=>ACW p.out.1 (by omega) ok
    go_wp2_with fail
    refine (DS.out ()).mono ?_
    rintro x w2 ⟨v,Y,T,L,rfl,l2,r2,o2⟩
    have OC:=ABL o2 p.out.2 (by omega)
    clear o2 DS p ok
    rcases OC with ⟨rfl,ct⟩ | ⟨x,rfl,kx,ct⟩ | ⟨x,rfl,kx,ct⟩
    ·rcases r2 with ⟨rfl,_,rfl⟩ | ⟨b2,r,rfl,q,rfl⟩
     ·have P2:Hid (LI n w a (k+1) [] T w2/\Bl T.ct s):=⟨l2,ct⟩
      clear l2 ct
      go_wp2
      refine wp_loop_rounds 1 ?_
      rw [rounds_succ]
      go_wp2
      go_roundw
      case rel=>exact ⟨k+1,s,_,by omega,by omega,s0,by omega,rfl,by go_num,P2⟩
      case measure=>simp [intOf];omega
     ·cases q
    ·rcases r2 with ⟨_,q,_⟩ | ⟨b2,r,rfl,q,rfl⟩
     ·cases q
     cases q
     obtain ⟨f0,f1,f2,f3,f4⟩:=Aq (b:=b2) l2.kx.AC
     have TY:Hid (∀ v,_):=λv=>cR (r:=x) v kx.1 kx.2
     have P2:Hid (∀ w3,Below w2.heap.size w2 w3->LI n w a (k+1) [] T w3/\Bl T.ct (s+1)):=λw3 b3=>⟨(l2.below b3).sub,ct⟩
     clear l2 ct kx
     go_wp2
     refine wp_loop_rounds 2 ?_
     rw [rounds_succ]
     go_wp2_with fail
     refine (TY.out _).mono ?_
     rintro e w3 ⟨rfl,b3⟩
     have P3:Hid (LI n w a (k+1) [] T w3/\Bl T.ct (s+1)):=P2.out w3 b3
     clear P2 b3
     go_wp2
     rw [rounds_succ]
     go_wp2
     go_roundw
     case rel=>exact ⟨k+1,s+1,_,by omega,by omega,by omega,by omega,by go_num,by go_num,P3⟩
     case measure=>simp [intOf];omega
    ·rcases r2 with ⟨_,q,_⟩ | ⟨b2,r,rfl,q,rfl⟩
     ·cases q
     cases q
     obtain ⟨f0,f1,f2,f3,f4⟩:=Aq (b:=b2) l2.kx.AC
     have TY:Hid (∀ v,_):=λv=>jV (r:=x) v kx
     have P2:Hid (∀ w3,Below w2.heap.size w2 w3->LI n w a (k+1) [] T w3/\Bl T.ct (s)):=λw3 b3=>⟨(l2.below b3).sub,ct⟩
     clear l2 ct kx
     go_wp2
     refine wp_loop_rounds 2 ?_
     rw [rounds_succ]
     go_wp2_with fail
     refine (TY.out _).mono ?_
     rintro e w3 ⟨rfl,b3⟩
     have P3:Hid (LI n w a (k+1) [] T w3/\Bl T.ct (s)):=P2.out w3 b3
     clear P2 b3
     go_wp2
     rw [rounds_succ]
     go_wp2
     go_roundw
     case rel=>exact ⟨k+1,s,_,by omega,by omega,by omega,by omega,by go_num,by go_num,P3⟩
     case measure=>simp [intOf];omega
   ·rcases LV c with c | ⟨c1,c⟩
    all_goals (
     have CC:Hid (∀ _:Unit,_):=λ_=>iD p.out.1.kx
     have SS:Hid (∀ _:Unit,_):=λ_=>ABM p.out.1 p.out.2
     have BB:Hid (Below w.heap.size w wr):=p.out.1.bel
     clear p LV
     go_wp2_with fail
     refine (CC.out ()).mono ?_
     rintro e u2 ⟨rfl,rfl⟩
     go_wp2_with fail
     refine (SS.out ()).mono ?_
     rintro e u2 ⟨rfl,rfl⟩
     go_wp2_with fail
     refine (KN.out _ BB.out).mono ?_
     rintro e u3 ⟨rfl,b3⟩
     go_wp2
     go_ret
     exact ⟨rfl,BB.out.trans (b3.mono BB.out.size)⟩)
end Go.Proofs.YtdlhlfpigcgapaaGreatDoor.Krn

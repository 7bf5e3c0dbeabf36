import Derived.Test.YtdlhlfpigcgapaaGreatDoorHZal
import Derived.Test.YtdlhlfpigcgapaaGreatDoorHZkm
import Derived.LoopN
set_option maxRecDepth 100000
set_option maxHeartbeats 16000000
set_option linter.unusedVariables false
set_option linter.unusedSimpArgs false
set_option linter.defProp false
namespace Go.Proofs.YtdlhlfpigcgapaaGreatDoor.Krn
open Go.Proofs.Tryz
open Go.ChangeShapes Go.WideShapes Go.ChangeAt Go.RowKit
open Mm
theorem hot_walk (a0:Int) (a1:Option Addr) (len1 cap1:Nat) (X1:Nat->Nat->Int) (w:World) (w0:(Lit.int .i64 a0).wf=true) (w1:Aff.TRow w (.slice a1 len1 cap1) len1 [1,1,1,2,1] X1) (z1:∀ i,i<len1->∀ j,j<[1,1,1,2,1].length->Aff.kwf ([1,1,1,2,1].getD j 1) (X1 i j)) (ht:A9 w) (hs:0<w.heap.size):
 Calls prog 5 #[.int .i64 a0,.slice a1 len1 cap1] w λe w'=>e=.returned (.bool true)/\Below w.heap.size w w':=by
 have KN:Hid (∀ u,Below w.heap.size w u->_):=λu b=>cP u (Df ht hs (Fr.AE b) (by simp)) (by have:=b.size;omega)
 have g0:=ACY w0
 by_cases g:a0<1\/(1<=a0/\64<a0)
 ·clear w1 z1 w0 g0
  have CB:Hid (∀ _:Unit,_):=λ_=>cQ a0 w g
  rcases g with g | ⟨g,g2⟩
  all_goals (
   go_enter func5,ntmps5
   go_wp2_with fail
   refine (CB.out ()).mono ?_
   rintro e u1 ⟨rfl,rfl⟩
   go_wp2_with fail
   refine (KN.out _ (Below.refl _ _)).mono ?_
   rintro e u2 ⟨rfl,b2⟩
   go_wp2
   go_ret
   exact ⟨rfl,b2⟩)
 ·obtain ⟨n,rfl⟩:=AD8 (show 0<=a0 by omega)
  have CN:Hid (∀ _:Unit,_):=λ_=>lT n w ht hs (by omega) (by omega)
  have HT:Hid (∀ (k:Nat),(k:Int)<len1->_):=λk hk=>AGK (k:=k) w1 z1 hk
  have LN:Hid (∀ (a:KA) (wr:World),KX w.heap.size w [] a 0 (new n) wr->a.n=n->LI n w a 0 [] (new n) wr):=λa wr h e=>ABK h e (by omega) (by omega)
  clear w1 z1 w0
  go_enter func5,ntmps5
  go_wp2_with fail
  refine (CN.out ()).mono ?_
  rintro e u1 ⟨a,rfl,an,h1⟩
  have P0:Hid (LI n w a 0 [] (new n) u1):=LN.out a u1 h1 an
  clear h1 LN CN ht hs an
  go_wp2
  go_loopw [7,8] (λov iv wr=>∃ (k:Nat) (S:KS) (o:Bool),(k:Int)<=len1/\(k:Int)<=300/\ov=.bool o/\iv=.int .i64 k/\Hid (LI n w a k [] S wr/\S.R.isSome=o)) (λ_ i _=>len1-(intOf i).toNat)
  case atStart=>exact ⟨0,_,false,by omega,by omega,rfl,rfl,⟨P0.out,rfl⟩⟩
  case round=>
   obtain ⟨k,S,o,hk,hk3,rfl,rfl,p⟩:=hrel
   clear P0
   have LV:∀ c:¬ ((k:Int)<len1/\(k:Int)<300),((¬ (k:Int)<len1))\/((k:Int)<len1/\¬ (k:Int)<300):=by omega
   by_cases c:(k:Int)<len1/\(k:Int)<300
   ·obtain ⟨c1,c2⟩:=c
    clear LV
    obtain ⟨b,off,e,rfl,ok,D⟩:=HT.out k c1
    have HD:Hid (∀ wr,Below w.heap.size w wr->_):=D
    obtain ⟨d0,d1,d2,d3,d4⟩:=D wr p.out.1.bel
    clear D
    have CA:Hid (∀ _:Unit,_):=λ_=>iC p.out.1.kx
    go_wp2_with fail
    refine (CA.out ()).mono ?_
    rintro x u ⟨rfl,rfl⟩
    have DS:Hid (∀ _:Unit,_):=λ_=>ACW p.out.1 (by omega) ok
    go_wp2_with fail
    refine (DS.out ()).mono ?_
    rintro x w2 ⟨v,Y,T,L,rfl,l2,r2,o2⟩
    have OH:=AG2 o2
    have onl:S.on<18446744073709551616:=p.out.1.inv.b.on64
    have so:=p.out.2
    clear o2 DS CA p ok d0 d1 d2 d3 d4
    rcases OH with ⟨rfl,ke,on,R⟩ | ⟨x,rfl,kx,no,on,R⟩ | ⟨x,rfl,kx,ke,wy,on,R0,R⟩ | ⟨x,rfl,kx,ke,R0,R,W⟩
    ·as_aux_lemma=>
     rcases r2 with ⟨rfl,_,rfl⟩ | ⟨b2,r,rfl,q,rfl⟩
     rotate_left
     ·cases q
     obtain ⟨d0,d1,d2,d3,d4⟩:=HD.out w2 l2.bel
     have R2:=R.trans so
     clear HD R so
     obtain ⟨e0,e1,e2,e3,e4⟩:=e
     simp only at *
     subst ke
     go_wp2
     refine wp_loop_rounds 1 ?_
     rw [rounds_succ]
     go_wp2_with fail
     have T1:Hid (∀ _:Unit,_):=λ_=>iC l2.kx
     have T2:Hid (∀ _:Unit,_):=λ_=>ABF l2.kx
     have T3:Hid (∀ _:Unit,_):=λ_=>Ov l2.kx
     rw [on] at T1
     rw [R2] at T3
     go_wp2_with fail
     refine (T1.out ()).mono ?_
     rintro e u ⟨rfl,rfl⟩
     go_wp2_with fail
     refine (T2.out ()).mono ?_
     rintro e u ⟨rfl,rfl⟩
     go_wp2_with fail
     refine (T3.out ()).mono ?_
     rintro e w9 ⟨rfl,h9⟩
     have P9:Hid (LI n w a (k+1) [] T w9/\T.R.isSome=o):=⟨LI.sub ⟨h9,l2.inv,l2.an⟩,R2⟩
     clear h9 l2
     go_wp2
     go_roundw
     case rel=>exact ⟨k+1,T,o,by omega,by omega,rfl,by go_num,P9⟩
     case measure=>simp [intOf];omega
    ·as_aux_lemma=>
     have R2:=R.trans so
     clear R so
     by_cases q3:e.kind=23
     ·have wn:(x.why==0)=false:=by rw [AHl];exact λq=>no ⟨Or.inl q3,q⟩
      clear no
      rcases r2 with ⟨_,q,_⟩ | ⟨b2,r,rfl,q,rfl⟩
      ·cases q
      cases q
      obtain ⟨f0,f1,f2,f3,f4⟩:=Aq (b:=b2) l2.kx.AC
      obtain ⟨d0,d1,d2,d3,d4⟩:=HD.out w2 l2.bel
      have k7:(x.kind==7)=false:=by rw [AHl];exact kx
      clear kx
      obtain ⟨e0,e1,e2,e3,e4⟩:=e
      simp only at *
      subst q3
      clear HD
      go_wp2
      refine wp_loop_rounds 2 ?_
      rw [rounds_succ]
      go_wp2
      rw [rounds_succ]
      go_wp2_with fail
      have T1:Hid (∀ _:Unit,_):=λ_=>iC l2.kx
      have T2:Hid (∀ _:Unit,_):=λ_=>ABF l2.kx
      have T3:Hid (∀ _:Unit,_):=λ_=>Ov l2.kx
      rw [on] at T1
      rw [R2] at T3
      go_wp2_with fail
      refine (T1.out ()).mono ?_
      rintro e u ⟨rfl,rfl⟩
      go_wp2_with fail
      refine (T2.out ()).mono ?_
      rintro e u ⟨rfl,rfl⟩
      go_wp2_with fail
      refine (T3.out ()).mono ?_
      rintro e w9 ⟨rfl,h9⟩
      have P9:Hid (LI n w a (k+1) [] T w9/\T.R.isSome=o):=⟨LI.sub ⟨h9,l2.inv,l2.an⟩,R2⟩
      clear h9 l2
      go_wp2
      go_roundw
      case rel=>exact ⟨k+1,T,o,by omega,by omega,rfl,by go_num,P9⟩
      case measure=>simp [intOf];omega
     by_cases q4:e.kind=24
     ·have wn:(x.why==0)=false:=by rw [AHl];exact λq=>no ⟨Or.inr q4,q⟩
      clear no q3
      rcases r2 with ⟨_,q,_⟩ | ⟨b2,r,rfl,q,rfl⟩
      ·cases q
      cases q
      obtain ⟨f0,f1,f2,f3,f4⟩:=Aq (b:=b2) l2.kx.AC
      obtain ⟨d0,d1,d2,d3,d4⟩:=HD.out w2 l2.bel
      have k7:(x.kind==7)=false:=by rw [AHl];exact kx
      clear kx
      obtain ⟨e0,e1,e2,e3,e4⟩:=e
      simp only at *
      subst q4
      clear HD
      go_wp2
      refine wp_loop_rounds 2 ?_
      rw [rounds_succ]
      go_wp2
      rw [rounds_succ]
      go_wp2_with fail
      have T1:Hid (∀ _:Unit,_):=λ_=>iC l2.kx
      have T2:Hid (∀ _:Unit,_):=λ_=>ABF l2.kx
      have T3:Hid (∀ _:Unit,_):=λ_=>Ov l2.kx
      rw [on] at T1
      rw [R2] at T3
      go_wp2_with fail
      refine (T1.out ()).mono ?_
      rintro e u ⟨rfl,rfl⟩
      go_wp2_with fail
      refine (T2.out ()).mono ?_
      rintro e u ⟨rfl,rfl⟩
      go_wp2_with fail
      refine (T3.out ()).mono ?_
      rintro e w9 ⟨rfl,h9⟩
      have P9:Hid (LI n w a (k+1) [] T w9/\T.R.isSome=o):=⟨LI.sub ⟨h9,l2.inv,l2.an⟩,R2⟩
      clear h9 l2
      go_wp2
      go_roundw
      case rel=>exact ⟨k+1,T,o,by omega,by omega,rfl,by go_num,P9⟩
      case measure=>simp [intOf];omega
     have k3:(e.kind==23)=false:=by rw [AHl];exact q3
     have k4:(e.kind==24)=false:=by rw [AHl];exact q4
     clear q3 q4 no
     rcases r2 with ⟨_,q,_⟩ | ⟨b2,r,rfl,q,rfl⟩
     ·cases q
     cases q
     obtain ⟨f0,f1,f2,f3,f4⟩:=Aq (b:=b2) l2.kx.AC
     obtain ⟨d0,d1,d2,d3,d4⟩:=HD.out w2 l2.bel
     have k7:(x.kind==7)=false:=by rw [AHl];exact kx
     clear kx
     clear HD
     go_wp2
     refine wp_loop_rounds 2 ?_
     rw [rounds_succ]
     go_wp2
     rw [rounds_succ]
     go_wp2_with fail
     have T1:Hid (∀ _:Unit,_):=λ_=>iC l2.kx
     have T2:Hid (∀ _:Unit,_):=λ_=>ABF l2.kx
     have T3:Hid (∀ _:Unit,_):=λ_=>Ov l2.kx
     rw [on] at T1
     rw [R2] at T3
     go_wp2_with fail
     refine (T1.out ()).mono ?_
     rintro e u ⟨rfl,rfl⟩
     go_wp2_with fail
     refine (T2.out ()).mono ?_
     rintro e u ⟨rfl,rfl⟩
     go_wp2_with fail
     refine (T3.out ()).mono ?_
     rintro e w9 ⟨rfl,h9⟩
     have P9:Hid (LI n w a (k+1) [] T w9/\T.R.isSome=o):=⟨LI.sub ⟨h9,l2.inv,l2.an⟩,R2⟩
     clear h9 l2
     go_wp2
     go_roundw
     case rel=>exact ⟨k+1,T,o,by omega,by omega,rfl,by go_num,P9⟩
     case measure=>simp [intOf];omega
    ·as_aux_lemma=>
     have oo:o=false:=so.symm.trans R0
     subst oo
     clear so R0
     rcases ke with ke | ke
     ·rcases r2 with ⟨_,q,_⟩ | ⟨b2,r,rfl,q,rfl⟩
      ·cases q
      cases q
      obtain ⟨f0,f1,f2,f3,f4⟩:=Aq (b:=b2) l2.kx.AC
      obtain ⟨d0,d1,d2,d3,d4⟩:=HD.out w2 l2.bel
      have k7:(x.kind==7)=false:=by rw [AHl];exact kx
      clear kx
      obtain ⟨e0,e1,e2,e3,e4⟩:=e
      obtain ⟨x0,x1,x2,x3,x4⟩:=x
      simp only at *
      subst ke wy
      clear HD
      go_wp2
      refine wp_loop_rounds 2 ?_
      rw [rounds_succ]
      go_wp2
      rw [rounds_succ]
      go_wp2_with fail
      have T1:Hid (∀ _:Unit,_):=λ_=>iC l2.kx
      have T2:Hid (∀ _:Unit,_):=λ_=>ABF l2.kx
      have T3:Hid (∀ _:Unit,_):=λ_=>Ov l2.kx
      rw [on] at T1
      rw [R] at T3
      go_wp2_with fail
      refine (T1.out ()).mono ?_
      rintro e u ⟨rfl,rfl⟩
      go_wp2_with fail
      refine (T2.out ()).mono ?_
      rintro e u ⟨rfl,rfl⟩
      go_wp2_with fail
      refine (T3.out ()).mono ?_
      rintro e w9 ⟨rfl,h9⟩
      have P9:Hid (LI n w a (k+1) [] T w9/\T.R.isSome=true):=⟨LI.sub ⟨h9,l2.inv,l2.an⟩,R⟩
      clear h9 l2
      go_wp2
      go_roundw
      case rel=>exact ⟨k+1,T,true,by omega,by omega,rfl,by go_num,P9⟩
      case measure=>simp [intOf];omega
     ·rcases r2 with ⟨_,q,_⟩ | ⟨b2,r,rfl,q,rfl⟩
      ·cases q
      cases q
      obtain ⟨f0,f1,f2,f3,f4⟩:=Aq (b:=b2) l2.kx.AC
      obtain ⟨d0,d1,d2,d3,d4⟩:=HD.out w2 l2.bel
      have k7:(x.kind==7)=false:=by rw [AHl];exact kx
      clear kx
      obtain ⟨e0,e1,e2,e3,e4⟩:=e
      obtain ⟨x0,x1,x2,x3,x4⟩:=x
      simp only at *
      subst ke wy
      clear HD
      go_wp2
      refine wp_loop_rounds 2 ?_
      rw [rounds_succ]
      go_wp2
      rw [rounds_succ]
      go_wp2_with fail
      have T1:Hid (∀ _:Unit,_):=λ_=>iC l2.kx
      have T2:Hid (∀ _:Unit,_):=λ_=>ABF l2.kx
      have T3:Hid (∀ _:Unit,_):=λ_=>Ov l2.kx
      rw [on] at T1
      rw [R] at T3
      go_wp2_with fail
      refine (T1.out ()).mono ?_
      rintro e u ⟨rfl,rfl⟩
      go_wp2_with fail
      refine (T2.out ()).mono ?_
      rintro e u ⟨rfl,rfl⟩
      go_wp2_with fail
      refine (T3.out ()).mono ?_
      rintro e w9 ⟨rfl,h9⟩
      have P9:Hid (LI n w a (k+1) [] T w9/\T.R.isSome=true):=⟨LI.sub ⟨h9,l2.inv,l2.an⟩,R⟩
      clear h9 l2
      go_wp2
      go_roundw
      case rel=>exact ⟨k+1,T,true,by omega,by omega,rfl,by go_num,P9⟩
      case measure=>simp [intOf];omega
    ·as_aux_lemma=>
     have oo:o=true:=so.symm.trans R0
     subst oo
     clear so R0
     rcases r2 with ⟨_,q,_⟩ | ⟨b2,r,rfl,q,rfl⟩
     ·cases q
     cases q
     obtain ⟨f0,f1,f2,f3,f4⟩:=Aq (b:=b2) l2.kx.AC
     obtain ⟨d0,d1,d2,d3,d4⟩:=HD.out w2 l2.bel
     have ON:S.on<18446744073709551616:=onl
     have CH:Hid (∀ v,_):=λv=>As S.on x.cpu v ON
     have CL:Hid (∀ v,_):=λv=>Eu S.on x.cpu v ON
     have CW:Hid (∀ v u,Row u v [x.cpu]->_):=λv u r=>Et S.on [x.cpu] v u ON (by simp) r
     have RN:=OM w2 [x.cpu] 3 1 1 rfl
     have LA:=l2.alloc (.cells #[.int .i64 x.cpu] 3)
     obtain ⟨e0,e1,e2,e3,e4⟩:=e
     obtain ⟨x0,x1,x2,x3,x4⟩:=x
     simp only at *
     subst kx ke
     clear HD ON onl
     rcases W with ⟨rfl,on⟩ | ⟨rfl,t,on⟩ | ⟨rfl,t,on⟩
     ·clear CH CL CW RN LA
      go_wp2
      refine wp_loop_rounds 2 ?_
      rw [rounds_succ]
      go_wp2
      rw [rounds_succ]
      go_wp2_with fail
      have T1:Hid (∀ _:Unit,_):=λ_=>iC l2.kx
      have T2:Hid (∀ _:Unit,_):=λ_=>ABF l2.kx
      have T3:Hid (∀ _:Unit,_):=λ_=>Ov l2.kx
      rw [on] at T1
      rw [R] at T3
      go_wp2_with fail
      refine (T1.out ()).mono ?_
      rintro e u ⟨rfl,rfl⟩
      go_wp2_with fail
      refine (T2.out ()).mono ?_
      rintro e u ⟨rfl,rfl⟩
      go_wp2_with fail
      refine (T3.out ()).mono ?_
      rintro e w9 ⟨rfl,h9⟩
      have P9:Hid (LI n w a (k+1) [] T w9/\T.R.isSome=false):=⟨LI.sub ⟨h9,l2.inv,l2.an⟩,R⟩
      clear h9 l2
      go_wp2
      go_roundw
      case rel=>exact ⟨k+1,T,false,by omega,by omega,rfl,by go_num,P9⟩
      case measure=>simp [intOf];omega
     ·clear CW RN LA
      rw [t] at CH
      go_wp2
      refine wp_loop_rounds 2 ?_
      rw [rounds_succ]
      go_wp2_with fail
      refine (CH.out _).mono ?_
      rintro e u ⟨rfl,rfl⟩
      go_wp2_with fail
      refine (CL.out _).mono ?_
      rintro e u ⟨rfl,rfl⟩
      go_wp2_with fail
      refine (CH.out _).mono ?_
      rintro e u ⟨rfl,rfl⟩
      go_wp2
      rw [rounds_succ]
      go_wp2_with fail
      have T1:Hid (∀ _:Unit,_):=λ_=>iC l2.kx
      have T2:Hid (∀ _:Unit,_):=λ_=>ABF l2.kx
      have T3:Hid (∀ _:Unit,_):=λ_=>Ov l2.kx
      rw [on] at T1
      rw [R] at T3
      go_wp2_with fail
      refine (T1.out ()).mono ?_
      rintro e u ⟨rfl,rfl⟩
      go_wp2_with fail
      refine (T2.out ()).mono ?_
      rintro e u ⟨rfl,rfl⟩
      go_wp2_with fail
      refine (T3.out ()).mono ?_
      rintro e w9 ⟨rfl,h9⟩
      have P9:Hid (LI n w a (k+1) [] T w9/\T.R.isSome=false):=⟨LI.sub ⟨h9,l2.inv,l2.an⟩,R⟩
      clear h9 l2
      go_wp2
      go_roundw
      case rel=>exact ⟨k+1,T,false,by omega,by omega,rfl,by go_num,P9⟩
      case measure=>simp [intOf];omega
     ·clear CL
      rw [t] at CH
      go_wp2
      refine wp_loop_rounds 2 ?_
      rw [rounds_succ]
      go_wp2_with fail
      refine (CH.out _).mono ?_
      rintro e u ⟨rfl,rfl⟩
      go_wp2_with fail
      refine (CH.out _).mono ?_
      rintro e u ⟨rfl,rfl⟩
      go_wp2_with fail
      refine (CW.out _ _ ?_).mono ?_
      ·exact RN
      rintro e u ⟨rfl,rfl⟩
      go_wp2
      rw [rounds_succ]
      go_wp2_with fail
      have T1:Hid (∀ _:Unit,_):=λ_=>iC LA.kx
      have T2:Hid (∀ _:Unit,_):=λ_=>ABF LA.kx
      have T3:Hid (∀ _:Unit,_):=λ_=>Ov LA.kx
      rw [on] at T1
      rw [R] at T3
      go_wp2_with fail
      refine (T1.out ()).mono ?_
      rintro e u ⟨rfl,rfl⟩
      go_wp2_with fail
      refine (T2.out ()).mono ?_
      rintro e u ⟨rfl,rfl⟩
      go_wp2_with fail
      refine (T3.out ()).mono ?_
      rintro e w9 ⟨rfl,h9⟩
      have P9:Hid (LI n w a (k+1) [] T w9/\T.R.isSome=false):=⟨LI.sub ⟨h9,LA.inv,LA.an⟩,R⟩
      clear h9 LA
      go_wp2
      go_roundw
      case rel=>exact ⟨k+1,T,false,by omega,by omega,rfl,by go_num,P9⟩
      case measure=>simp [intOf];omega
   ·rcases LV c with c | ⟨c1,c⟩
    all_goals (
     have BB:Hid (Below w.heap.size w wr):=p.out.1.bel
     clear p LV
     go_wp2_with fail
     refine (KN.out _ BB.out).mono ?_
     rintro e u3 ⟨rfl,b3⟩
     go_wp2
     go_ret
     exact ⟨rfl,BB.out.trans (b3.mono BB.out.size)⟩)
end Go.Proofs.YtdlhlfpigcgapaaGreatDoor.Krn

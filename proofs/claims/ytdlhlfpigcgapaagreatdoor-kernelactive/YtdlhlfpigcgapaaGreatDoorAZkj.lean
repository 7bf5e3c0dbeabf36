import Derived.Test.YtdlhlfpigcgapaaGreatDoorAZal
import Derived.Test.YtdlhlfpigcgapaaGreatDoorAZkm
import Derived.LoopN
set_option maxRecDepth 100000
set_option maxHeartbeats 16000000
set_option linter.unusedVariables false
set_option linter.unusedSimpArgs false
set_option linter.defProp false
namespace Go.Proofs.YtdlhlfpigcgapaaGreatDoor.Krn
open Go.Proofs.Tryz
open Go.ChangeShapes Go.WideShapes Go.ChangeAt Go.RowKit
open Mm
abbrev oa0:Oper:=⟨some 51,.move (.tmp 9),31, "law.go:127",#[],none⟩
abbrev oa1:Oper:=⟨some 52,.move (.tmp 10),3, "law.go:127",#[],none⟩
abbrev oa2:Oper:=⟨some 53,.indexAddr 31 (.tmp 51) (.tmp 52),0, "law.go:127",#[⟨0,.data⟩,⟨1,.data⟩],none⟩
abbrev oa3:Oper:=⟨some 54,.load 37 (.tmp 53),37, "law.go:127",#[⟨2,.data⟩],none⟩
abbrev oa4:Oper:=⟨some 55,.call { callee:=Callee.value (.func 11),args:=#[.tmp 54],argTypes:=#[37] },4, "law.go:127",#[⟨3,.data⟩],none⟩
abbrev oa5:Oper:=⟨some 56,.move (.tmp 55),4, "law.go:127",#[⟨4,.data⟩,⟨4,.chain⟩],none⟩
abbrev oa6:Oper:=⟨some 57,.move (.tmp 8),29, "law.go:127",#[⟨5,.guard⟩],some (5,true)⟩
abbrev oa7:Oper:=⟨some 58,.move (.tmp 9),31, "law.go:127",#[⟨5,.guard⟩],some (5,true)⟩
abbrev oa8:Oper:=⟨some 59,.move (.tmp 10),3, "law.go:127",#[⟨5,.guard⟩],some (5,true)⟩
abbrev oa9:Oper:=⟨some 60,.indexAddr 31 (.tmp 58) (.tmp 59),0, "law.go:127",#[⟨7,.data⟩,⟨8,.data⟩,⟨5,.guard⟩],some (5,true)⟩
abbrev AGc:Oper:=⟨some 61,.fieldAddr 37 (.tmp 60) 1,0, "law.go:127",#[⟨9,.data⟩,⟨5,.guard⟩],some (5,true)⟩
abbrev AGd:Oper:=⟨some 62,.load 3 (.tmp 61),3, "law.go:127",#[⟨10,.data⟩,⟨5,.guard⟩],some (5,true)⟩
abbrev AGe:Oper:=⟨some 63,.call { callee:=Callee.value (.func 12),args:=#[.tmp 57,.tmp 62],argTypes:=#[29,3] },4, "law.go:127",#[⟨6,.data⟩,⟨11,.data⟩,⟨5,.chain⟩,⟨5,.guard⟩],some (5,true)⟩
abbrev AGf:Oper:=⟨some 64,.unOp UnOp.not 4 (.tmp 63),4, "law.go:127",#[⟨12,.data⟩,⟨5,.guard⟩],some (5,true)⟩
abbrev AGg:Oper:=⟨some 65,.move (.tmp 64),4, "law.go:127",#[⟨13,.data⟩,⟨12,.chain⟩,⟨5,.guard⟩],some (5,true)⟩
abbrev AGh:Oper:=⟨some 66,.move (.tmp 1),22, "law.go:127",#[⟨14,.guard⟩],some (14,false)⟩
abbrev AGi:Oper:=⟨some 67,.move (.tmp 7),3, "law.go:127",#[⟨14,.guard⟩],some (14,false)⟩
abbrev AGj:Oper:=⟨some 68,.indexAddr 22 (.tmp 66) (.tmp 67),0, "law.go:127",#[⟨15,.data⟩,⟨16,.data⟩,⟨14,.guard⟩],some (14,false)⟩
abbrev AGk:Oper:=⟨some 69,.fieldAddr 34 (.tmp 68) 0,0, "law.go:127",#[⟨17,.data⟩,⟨14,.guard⟩],some (14,false)⟩
abbrev AGl:Oper:=⟨some 70,.load 3 (.tmp 69),3, "law.go:127",#[⟨18,.data⟩,⟨14,.guard⟩],some (14,false)⟩
abbrev AGm:Oper:=⟨some 71,.binOp BinOp.neq 3 (.tmp 70) (.const (Value.int IntKind.i64 1)) 3,4, "law.go:127",#[⟨19,.data⟩,⟨14,.guard⟩],some (14,false)⟩
abbrev AGn:Oper:=⟨some 72,.pick (.tmp 65) (.const (Value.bool true)) (.tmp 71),4, "law.go:127",#[⟨14,.data⟩,⟨20,.data⟩,⟨5,.guard⟩],some (5,true)⟩
abbrev AGo:Oper:=⟨some 73,.move (.tmp 72),4, "law.go:127",#[⟨21,.data⟩,⟨14,.chain⟩,⟨5,.guard⟩],some (5,true)⟩
abbrev AGp:Oper:=⟨some 74,.move (.tmp 1),22, "law.go:127",#[⟨22,.guard⟩],some (22,false)⟩
abbrev AGq:Oper:=⟨some 75,.move (.tmp 7),3, "law.go:127",#[⟨22,.guard⟩],some (22,false)⟩
abbrev AGr:Oper:=⟨some 76,.indexAddr 22 (.tmp 74) (.tmp 75),0, "law.go:127",#[⟨23,.data⟩,⟨24,.data⟩,⟨22,.guard⟩],some (22,false)⟩
abbrev AGs:Oper:=⟨some 77,.fieldAddr 34 (.tmp 76) 1,0, "law.go:127",#[⟨25,.data⟩,⟨22,.guard⟩],some (22,false)⟩
abbrev AGt:Oper:=⟨some 78,.load 3 (.tmp 77),3, "law.go:127",#[⟨26,.data⟩,⟨22,.guard⟩],some (22,false)⟩
abbrev AGu:Oper:=⟨some 79,.move (.tmp 9),31, "law.go:127",#[⟨22,.guard⟩],some (22,false)⟩
abbrev AGv:Oper:=⟨some 80,.move (.tmp 10),3, "law.go:127",#[⟨22,.guard⟩],some (22,false)⟩
abbrev AGw:Oper:=⟨some 81,.indexAddr 31 (.tmp 79) (.tmp 80),0, "law.go:127",#[⟨28,.data⟩,⟨29,.data⟩,⟨22,.guard⟩],some (22,false)⟩
abbrev AGx:Oper:=⟨some 82,.fieldAddr 37 (.tmp 81) 1,0, "law.go:127",#[⟨30,.data⟩,⟨22,.guard⟩],some (22,false)⟩
abbrev AGy:Oper:=⟨some 83,.load 3 (.tmp 82),3, "law.go:127",#[⟨31,.data⟩,⟨22,.guard⟩],some (22,false)⟩
abbrev AGz:Oper:=⟨some 84,.binOp BinOp.neq 3 (.tmp 78) (.tmp 83) 3,4, "law.go:127",#[⟨27,.data⟩,⟨32,.data⟩,⟨22,.guard⟩],some (22,false)⟩
abbrev AHA:Oper:=⟨some 85,.pick (.tmp 73) (.const (Value.bool true)) (.tmp 84),4, "law.go:127",#[⟨22,.data⟩,⟨33,.data⟩,⟨5,.guard⟩],some (5,true)⟩
abbrev AHB:Oper:=⟨some 86,.pick (.tmp 56) (.tmp 85) (.const (Value.bool false)),4, "law.go:127",#[⟨5,.data⟩,⟨34,.data⟩],none⟩
theorem active_walk (a0:Int) (a1:Option Addr) (len1 cap1:Nat) (X1:Nat->Nat->Int) (w:World) (w0:(Lit.int .i64 a0).wf=true) (w1:Aff.TRow w (.slice a1 len1 cap1) len1 [1,1,1,2,1] X1) (z1:∀ i,i<len1->∀ j,j<[1,1,1,2,1].length->Aff.kwf ([1,1,1,2,1].getD j 1) (X1 i j)) (ht:A9 w) (hs:0<w.heap.size):
 Calls prog 3 #[.int .i64 a0,.slice a1 len1 cap1] w λe w'=>e=.returned (.bool true)/\Below w.heap.size w w':=by
 have KN:Hid (∀ u,Below w.heap.size w u->_):=λu b=>cP u (Df ht hs (Fr.AE b) (by simp)) (by have:=b.size;omega)
 have g0:=ACY w0
 by_cases g:a0<1\/(1<=a0/\64<a0)
 ·clear w1 z1 w0 g0
  have CB:Hid (∀ _:Unit,_):=λ_=>cQ a0 w g
  rcases g with g | ⟨g,g2⟩
  all_goals (
   go_enter func3,ntmps3
   go_wp2_with fail
   refine (CB.out ()).mono ?_
   rintro e u1 ⟨rfl,rfl⟩
   go_wp2_with fail
   refine (KN.out _ (Below.refl _ _)).mono ?_
   rintro e u2 ⟨rfl,b2⟩
   go_wp2
   go_ret
   exact ⟨rfl,b2⟩)
 ·obtain ⟨n,rfl⟩:=AD8 (show 0<=a0 by omega)
  have CN:Hid (∀ _:Unit,_):=λ_=>lT n w ht hs (by omega) (by omega)
  have HT:Hid (∀ (k:Nat),(k:Int)<len1->_):=λk hk=>AGK (k:=k) w1 z1 hk
  have LN:Hid (∀ (a:KA) (wr:World),KX w.heap.size w [] a 0 (new n) wr->a.n=n->LI n w a 0 [] (new n) wr):=λa wr h e=>ABK h e (by omega) (by omega)
  clear w1 z1 w0
  go_enter func3,ntmps3
  go_wp2_with fail
  refine (CN.out ()).mono ?_
  rintro e u1 ⟨a,rfl,an,h1⟩
  have P0:Hid (LI n w a 0 [] (new n) u1):=LN.out a u1 h1 an
  clear h1 LN CN ht hs an
  go_wp2
  go_loopw [7] (λiv wr=>∃ (k:Nat) (S:KS),(k:Int)<=len1/\(k:Int)<=300/\iv=.int .i64 k/\Hid (LI n w a k [] S wr)) (λi _=>len1-(intOf i).toNat)
  case atStart=>exact ⟨0,_,by omega,by omega,rfl,P0⟩
  case round=>
   obtain ⟨k,S,hk,hk3,rfl,p⟩:=hrel
   clear P0
   have LV:∀ c:¬ ((k:Int)<len1/\(k:Int)<300),((¬ (k:Int)<len1))\/((k:Int)<len1/\¬ (k:Int)<300):=by omega
   by_cases c:(k:Int)<len1/\(k:Int)<300
   ·obtain ⟨c1,c2⟩:=c
    clear LV
    obtain ⟨b,off,e,rfl,ok,D⟩:=HT.out k c1
    have HD:Hid (∀ wr,Below w.heap.size w wr->_):=D
    obtain ⟨d0,d1,d2,d3,d4⟩:=D wr p.out.bel
    clear D
    have CA:Hid (∀ _:Unit,_):=λ_=>ABG p.out.kx
    go_wp2_with fail
    refine (CA.out ()).mono ?_
    rintro x u ⟨rfl,rfl⟩
    have DS:Hid (∀ _:Unit,_):=λ_=>ACW p.out (by omega) ok
    go_wp2_with fail
    refine (DS.out ()).mono ?_
    rintro x w2 ⟨v,Y,T,L,rfl,l2,r2,o2⟩
    have OA:=AG1 o2
    have AC:S.ac<18446744073709551616:=p.out.inv.ac.1
    clear o2 DS CA p ok d0 d1 d2 d3 d4
    rcases OA with rfl | ⟨x,rfl,kx,ke,kc,ka⟩ | ⟨x,rfl,kx⟩
    ·as_aux_lemma=>
     rcases r2 with ⟨rfl,_,rfl⟩ | ⟨b2,r,rfl,q,rfl⟩
     rotate_left
     ·cases q
     clear HD
     go_wp2
     refine wp_loop_rounds 1 ?_
     rw [rounds_succ]
     go_wp2_with fail
     have i9:=l2.inv
     have T1:Hid (∀ _:Unit,_):=λ_=>ABG l2.kx
     have T2:Hid (∀ _:Unit,_):=λ_=>iC l2.kx
     have T3:Hid (∀ _:Unit,_):=λ_=>ABH (x:=T.ac) (y:=T.on) w2 i9.ac.1 i9.b.on64 (AGJ i9)
     have P9:Hid (LI n w a (k+1) [] T w2):=LI.sub l2
     have n9:((T.ac:Int)==0)=false:=by rw [AHl];have:=i9.ac.2;omega
     clear i9 l2
     generalize (T.ac:Int)=ta at *
     generalize (T.on:Int)=tn at *
     go_wp2_with fail
     refine (T1.out ()).mono ?_
     rintro e u ⟨rfl,rfl⟩
     go_wp2_with fail
     refine (T2.out ()).mono ?_
     rintro e u ⟨rfl,rfl⟩
     go_wp2_with fail
     refine (T3.out ()).mono ?_
     rintro e u ⟨rfl,rfl⟩
     go_wp2_with fail
     refine (T1.out ()).mono ?_
     rintro e u ⟨rfl,rfl⟩
     go_wp2
     go_roundw
     case rel=>exact ⟨k+1,T,by omega,by omega,by go_num,P9⟩
     case measure=>simp [intOf];omega
    ·as_aux_lemma=>
     rcases r2 with ⟨_,q,_⟩ | ⟨b2,r,rfl,q,rfl⟩
     ·cases q
     cases q
     have TY:Hid (∀ v,_):=λv=>cR (r:=x) v kx.1 kx.2
     have HA:Hid (∀ v,_):=λv=>As S.ac x.cpu v AC
     rw [ka] at HA
     obtain ⟨x0,x1,x2,x3,x4⟩:=x
     obtain ⟨e0,e1,e2,e3,e4⟩:=e
     simp only at *
     subst kc ke
     clear kx ka AC
     generalize (S.ac:Int)=sa at *
     go_wp2
     refine wp_loop_rounds 2 ?_
     rw [rounds_succ]
     go_wp2_with fail
     refine Hf [] (λw'=>w'.cell? ⟨b2,0,none⟩=some (.int .i64 x0)/\w'.cell? ⟨b2,1,none⟩=some (.int .i64 x1)/\w'.cell? ⟨b2,2,none⟩=some (.int .i64 x2)/\w'.cell? ⟨b2,3,none⟩=some (.int .i64 x3)/\w'.cell? ⟨b2,4,none⟩=some (.int .i64 x4)/\w'.cell? ⟨b,off+k*5,none⟩=some (.int .i64 1)/\w'.cell? ⟨b,off+k*5+1,none⟩=some (.int .i64 x1)) (by kernel_rfl) (by exact ⟨l2.kx.AC.cell 0,l2.kx.AC.cell 1,l2.kx.AC.cell 2,l2.kx.AC.cell 3,l2.kx.AC.cell 4,(HD.out w2 l2.bel).1,(HD.out w2 l2.bel).2.1⟩) (λhHeld=>?_)
     refine pK 0 oa0 hHeld ?_
     refine pK 1 oa1 hHeld ?_
     refine pK 2 oa2 hHeld ?_
     refine tK 3 oa3 hHeld ?_
     refine AV (i:=4) (by kernel_rfl) (Bu (o:=oa4) rfl (λK hK=>?_))
     go_simp
     refine (TY.out _).mono ?_
     rintro e w3 ⟨rfl,b3⟩
     have l3:=l2.lS b3 ⟨rfl,rfl,rfl,rfl⟩
     clear b3 l2 TY
     (try go_wp2_with fail)
     refine hK.out _ _ ?sy5 (λhHeld=>?ty5)
     case sy5=>(intro _;exact ⟨l3.kx.AC.cell 0,l3.kx.AC.cell 1,l3.kx.AC.cell 2,l3.kx.AC.cell 3,l3.kx.AC.cell 4,(HD.out w3 l3.bel).1,(HD.out w3 l3.bel).2.1⟩)
     replace hHeld:=hHeld (EI (by kernel_rfl))
     clear hK K
     try simp only [Act.put,AD1,AD5,AD2]
     refine pK 5 oa5 hHeld ?_
     refine pK 6 oa6 hHeld ?_
     refine pK 7 oa7 hHeld ?_
     refine pK 8 oa8 hHeld ?_
     refine pK 9 oa9 hHeld ?_
     refine pK 10 AGc hHeld ?_
     refine tK 11 AGd hHeld ?_
     refine AV (i:=12) (by kernel_rfl) (Bu (o:=AGe) rfl (λK hK=>?_))
     go_simp
     refine (HA.out _).mono ?_
     rintro e w3 ⟨rfl,rfl⟩
     (try go_wp2_with fail)
     refine hK.out _ _ ?sy13 (λhHeld=>?ty13)
     case sy13=>(intro _;assumption)
     replace hHeld:=hHeld (EI (by kernel_rfl))
     clear hK K
     try simp only [Act.put,AD1,AD5,AD2]
     refine pK 13 AGf hHeld ?_
     refine pK 14 AGg hHeld ?_
     refine pK 15 AGh hHeld ?_
     refine pK 16 AGi hHeld ?_
     refine pK 17 AGj hHeld ?_
     refine pK 18 AGk hHeld ?_
     refine tK 19 AGl hHeld ?_
     refine pK 20 AGm hHeld ?_
     refine pK 21 AGn hHeld ?_
     refine pK 22 AGo hHeld ?_
     refine pK 23 AGp hHeld ?_
     refine pK 24 AGq hHeld ?_
     refine pK 25 AGr hHeld ?_
     refine pK 26 AGs hHeld ?_
     refine tK 27 AGt hHeld ?_
     refine pK 28 AGu hHeld ?_
     refine pK 29 AGv hHeld ?_
     refine pK 30 AGw hHeld ?_
     refine pK 31 AGx hHeld ?_
     refine tK 32 AGy hHeld ?_
     refine pK 33 AGz hHeld ?_
     refine pK 34 AHA hHeld ?_
     refine pK 35 AHB hHeld ?_
     refine B6 (by kernel_rfl) ?_ _
     go_wp2
     rw [rounds_succ]
     go_wp2_with fail
     have i9:=l3.inv
     have T1:Hid (∀ _:Unit,_):=λ_=>ABG l3.kx
     have T2:Hid (∀ _:Unit,_):=λ_=>iC l3.kx
     have T3:Hid (∀ _:Unit,_):=λ_=>ABH (x:=T.ac) (y:=T.on) w3 i9.ac.1 i9.b.on64 (AGJ i9)
     have P9:Hid (LI n w a (k+1) [] T w3):=LI.sub l3
     have n9:((T.ac:Int)==0)=false:=by rw [AHl];have:=i9.ac.2;omega
     clear i9 l3
     generalize (T.ac:Int)=ta at *
     generalize (T.on:Int)=tn at *
     go_wp2_with fail
     refine (T1.out ()).mono ?_
     rintro e u ⟨rfl,rfl⟩
     go_wp2_with fail
     refine (T2.out ()).mono ?_
     rintro e u ⟨rfl,rfl⟩
     go_wp2_with fail
     refine (T3.out ()).mono ?_
     rintro e u ⟨rfl,rfl⟩
     go_wp2_with fail
     refine (T1.out ()).mono ?_
     rintro e u ⟨rfl,rfl⟩
     go_wp2
     go_roundw
     case rel=>exact ⟨k+1,T,by omega,by omega,by go_num,P9⟩
     case measure=>simp [intOf];omega
    ·as_aux_lemma=>
     rcases r2 with ⟨_,q,_⟩ | ⟨b2,r,rfl,q,rfl⟩
     ·cases q
     cases q
     have TY:Hid (∀ v,_):=λv=>jV (r:=x) v kx
     obtain ⟨x0,x1,x2,x3,x4⟩:=x
     obtain ⟨e0,e1,e2,e3,e4⟩:=e
     simp only at *
     clear kx AC
     go_wp2
     refine wp_loop_rounds 2 ?_
     rw [rounds_succ]
     go_wp2_with fail
     refine Hf [] (λw'=>w'.cell? ⟨b2,0,none⟩=some (.int .i64 x0)/\w'.cell? ⟨b2,1,none⟩=some (.int .i64 x1)/\w'.cell? ⟨b2,2,none⟩=some (.int .i64 x2)/\w'.cell? ⟨b2,3,none⟩=some (.int .i64 x3)/\w'.cell? ⟨b2,4,none⟩=some (.int .i64 x4)/\w'.cell? ⟨b,off+k*5,none⟩=some (.int .i64 e0)/\w'.cell? ⟨b,off+k*5+1,none⟩=some (.int .i64 e1)) (by kernel_rfl) (by exact ⟨l2.kx.AC.cell 0,l2.kx.AC.cell 1,l2.kx.AC.cell 2,l2.kx.AC.cell 3,l2.kx.AC.cell 4,(HD.out w2 l2.bel).1,(HD.out w2 l2.bel).2.1⟩) (λhHeld=>?_)
     refine pK 0 oa0 hHeld ?_
     refine pK 1 oa1 hHeld ?_
     refine pK 2 oa2 hHeld ?_
     refine tK 3 oa3 hHeld ?_
     refine AV (i:=4) (by kernel_rfl) (Bu (o:=oa4) rfl (λK hK=>?_))
     go_simp
     refine (TY.out _).mono ?_
     rintro e w3 ⟨rfl,b3⟩
     have l3:=l2.lS b3 ⟨rfl,rfl,rfl,rfl⟩
     clear b3 l2 TY
     (try go_wp2_with fail)
     refine hK.out _ _ ?sz5 (λhHeld=>?tz5)
     case sz5=>(intro _;exact ⟨l3.kx.AC.cell 0,l3.kx.AC.cell 1,l3.kx.AC.cell 2,l3.kx.AC.cell 3,l3.kx.AC.cell 4,(HD.out w3 l3.bel).1,(HD.out w3 l3.bel).2.1⟩)
     replace hHeld:=hHeld (EI (by kernel_rfl))
     clear hK K
     try simp only [Act.put,AD1,AD5,AD2]
     refine pK 5 oa5 hHeld ?_
     refine xK 6 oa6 hHeld ?_
     refine xK 7 oa7 hHeld ?_
     refine xK 8 oa8 hHeld ?_
     refine xK 9 oa9 hHeld ?_
     refine xK 10 AGc hHeld ?_
     refine xK 11 AGd hHeld ?_
     refine xK 12 AGe hHeld ?_
     refine xK 13 AGf hHeld ?_
     refine xK 14 AGg hHeld ?_
     refine xK 15 AGh hHeld ?_
     refine xK 16 AGi hHeld ?_
     refine xK 17 AGj hHeld ?_
     refine xK 18 AGk hHeld ?_
     refine xK 19 AGl hHeld ?_
     refine xK 20 AGm hHeld ?_
     refine xK 21 AGn hHeld ?_
     refine xK 22 AGo hHeld ?_
     refine xK 23 AGp hHeld ?_
     refine xK 24 AGq hHeld ?_
     refine xK 25 AGr hHeld ?_
     refine xK 26 AGs hHeld ?_
     refine xK 27 AGt hHeld ?_
     refine xK 28 AGu hHeld ?_
     refine xK 29 AGv hHeld ?_
     refine xK 30 AGw hHeld ?_
     refine xK 31 AGx hHeld ?_
     refine xK 32 AGy hHeld ?_
     refine xK 33 AGz hHeld ?_
     refine xK 34 AHA hHeld ?_
     refine pK 35 AHB hHeld ?_
     refine B6 (by kernel_rfl) ?_ _
     go_wp2
     rw [rounds_succ]
     go_wp2_with fail
     have i9:=l3.inv
     have T1:Hid (∀ _:Unit,_):=λ_=>ABG l3.kx
     have T2:Hid (∀ _:Unit,_):=λ_=>iC l3.kx
     have T3:Hid (∀ _:Unit,_):=λ_=>ABH (x:=T.ac) (y:=T.on) w3 i9.ac.1 i9.b.on64 (AGJ i9)
     have P9:Hid (LI n w a (k+1) [] T w3):=LI.sub l3
     have n9:((T.ac:Int)==0)=false:=by rw [AHl];have:=i9.ac.2;omega
     clear i9 l3
     generalize (T.ac:Int)=ta at *
     generalize (T.on:Int)=tn at *
     go_wp2_with fail
     refine (T1.out ()).mono ?_
     rintro e u ⟨rfl,rfl⟩
     go_wp2_with fail
     refine (T2.out ()).mono ?_
     rintro e u ⟨rfl,rfl⟩
     go_wp2_with fail
     refine (T3.out ()).mono ?_
     rintro e u ⟨rfl,rfl⟩
     go_wp2_with fail
     refine (T1.out ()).mono ?_
     rintro e u ⟨rfl,rfl⟩
     go_wp2
     go_roundw
     case rel=>exact ⟨k+1,T,by omega,by omega,by go_num,P9⟩
     case measure=>simp [intOf];omega
   ·rcases LV c with c | ⟨c1,c⟩
    all_goals (
     have BB:Hid (Below w.heap.size w wr):=p.out.bel
     clear p LV
     go_wp2_with fail
     refine (KN.out _ BB.out).mono ?_
     rintro e u3 ⟨rfl,b3⟩
     go_wp2
     go_ret
     exact ⟨rfl,BB.out.trans (b3.mono BB.out.size)⟩)
end Go.Proofs.YtdlhlfpigcgapaaGreatDoor.Krn

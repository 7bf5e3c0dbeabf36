import Derived.Test.YtdlhlfpigcgapaaGreatDoorAZal
import Derived.Test.YtdlhlfpigcgapaaGreatDoorAXb
import Derived.OwnWalk
import Derived.Lib.SmallJoins
set_option maxRecDepth 100000
set_option maxHeartbeats 16000000
set_option linter.unusedVariables false
set_option linter.unusedSimpArgs false
set_option linter.defProp false
namespace Go.Proofs.YtdlhlfpigcgapaaGreatDoor.Aff
open Go.Proofs.Tryz
open Go.ChangeShapes Go.WideShapes Go.ChangeAt Go.RowKit
open Mm
variable {c:Int} {a b:Nat}
def cS (a b:Nat):Nat:=if a&&& b=0 then b else a&&& b
def cN (a b:Nat) (c:Int):Int:=if b=0 then 0 else if tb (cS a b) c=true then c else ((hd (nx (cS a b) c):Nat):Int)
def cF (a b:Nat):Bool:=if b=0 then false else decide (a&&& b=0)
def cE (b:Nat):Int:=if b=0 then 12 else 0
def Qp (hb:b<18446744073709551616):cS a b<18446744073709551616:=by
 unfold cS
 split
 ·exact hb
 ·exact F6 hb
def lF (hb:b≠0):cS a b≠0:=by
 unfold cS
 split
 ·exact hb
 ·assumption
def Gz:(ls 0).length=0:=by rw [ET];rfl
def I' (ha:a<18446744073709551616) (h:a≠0):0<(ls a).length:=by
 rcases Nat.eq_zero_or_pos (ls a).length with e | e
 ·exact absurd (Er a ha (ADh e)) h
 ·exact e
def ABt {m:Nat} (hm:m<18446744073709551616) (h:m≠0):er (nx m c)=0:=by
 apply AHh
 unfold nx
 split
 ·exact λe=>h (Er m hm e)
 ·assumption
def ABu (hb:b<18446744073709551616) (h:b≠0):tb (cS a b) (cN a b c)=true:=by
 unfold cN
 rw [AHh h]
 split
 ·assumption
 ·have hm:=Qp (a:=a) hb
  have h0:=lF (a:=a) h
  generalize cS a b=m at *
  have hn:nx m c≠[]:=by
   unfold nx
   split
   ·exact λe=>h0 (Er m hm e)
   ·assumption
  have hi:hd (nx m c)∈ls m:=by
   have hx:hd (nx m c)∈nx m c:=by
    cases e:nx m c with
    | nil=>exact absurd e hn
    | cons x r=>simp [hd]
   unfold nx at hx ⊢
   split at hx
   ·rw [AHi (by assumption)];exact hx
   ·rw [AHh (by assumption)];exact (AD9.1 hx).1
  obtain ⟨h1,h2⟩:=(Qv m _).1 hi
  rw [Dx _ _ h1]
  exact h2
def aJ (a b:Nat) (c:Int):tb (a&&& b) c=(tb a c&&tb b c):=by
 unfold tb
 rw [ADp]
 cases decide (0<=c/\c<64) <;> simp
def Ou (c:Int):tb 0 c=false:=by unfold tb;simp
def MD (hb:b<18446744073709551616) (h:b≠0):tb b (cN a b c)=true/\tb a (cN a b c)=!(decide (a&&& b=0)):=by
 have hi:=ABu (a:=a) (c:=c) hb h
 generalize cN a b c=x at *
 unfold cS at hi
 by_cases h1:a&&& b=0
 ·rw [AHi h1] at hi
  refine ⟨hi,?_⟩
  have:=aJ a b x
  rw [h1,Ou,hi,Bool.and_true] at this
  rw [<- this,AHj h1]
  rfl
 ·rw [AHh h1,aJ,ADe] at hi
  refine ⟨hi.2,?_⟩
  rw [hi.1,AHk h1]
  rfl
def W7 (a b:Nat) (c:Int) (w:World) (ha:a<18446744073709551616) (hb:b<18446744073709551616) (hc:-9223372036854775808<=c) (ht:A9 w):
 Calls prog 258 #[.int .u64 (a:Int),.int .u64 (b:Int),.int .i64 c] w λe w'=>e=.returned (.tuple #[.int .i64 (cN a b c),.bool (cF a b),.int .i64 (cE b)])/\w'=w:=by
 by_cases h0:b=0
 ·subst h0
  have M:Hid (∀ w,_):=λw=>CQ 0 w hb
  rw [Gz] at M
  rw [show cN a 0 c=0 from AHi rfl,show cF a 0=false from AHi rfl,show cE 0=12 from AHi rfl]
  clear ha hb hc ht
  go_enter func258,ntmps258
  go_wp2_with fail
  refine (M.out _).mono ?_
  rintro e w' ⟨rfl,rfl⟩
  go_wp2
  go_ret3
  exact ⟨rfl,rfl⟩
 ·have HT:Hid (A9 w):=ht
  have M1:Hid (∀ w,_):=λw=>CQ b w hb
  have M2:Hid (∀ w,_):=λw=>Lj a b w ha hb
  have M3:Hid (∀ w,_):=λw=>CQ (a&&& b) w (F6 hb)
  have M4:Hid (∀ w,_):=λw=>As (cS a b) c w (Qp hb)
  have M5:Hid (∀ w,A9 w->_):=λw ht=>Gi (cS a b) c w (Qp hb) hc ht
  rw [ABt (Qp hb) (lF h0)] at M5
  have p1:=I' hb h0
  have q1:(((ls b).length:Int)==0)=false:=by rw [AHl];omega
  have l1:=KU b
  rw [show cE b=0 from AHh h0]
  rcases Bool.eq_false_or_eq_true (tb (cS a b) c) with ht2 | ht2
  ·rw [show cN a b c=c from (AHh h0).trans (AHi ht2)]
   rw [ht2] at M4
   by_cases h1:a&&& b=0
   ·rw [show cF a b=true from (AHh h0).trans (AHj h1)]
    rw [show cS a b=b from AHi h1] at M4
    rw [h1,Gz] at M3
    rw [h1] at M2
    generalize (ls b).length=n1 at *
    clear ha hb ht h0 ht2 h1 M5
    go_enter func258,ntmps258
    go_wp2_with fail
    refine (M1.out _).mono ?_
    rintro e w' ⟨rfl,rfl⟩
    go_wp2_with fail
    refine (M2.out _).mono ?_
    rintro e w' ⟨rfl,rfl⟩
    go_wp2_with fail
    refine (M3.out _).mono ?_
    rintro e w' ⟨rfl,rfl⟩
    go_wp2_with fail
    refine (M4.out _).mono ?_
    rintro e w' ⟨rfl,rfl⟩
    go_wp2
    go_ret3
    exact ⟨rfl,rfl⟩
   ·rw [show cF a b=false from (AHh h0).trans (AHk h1)]
    rw [show cS a b=a&&& b from AHh h1] at M4
    have p2:=I' (F6 hb) h1
    have q2:(((ls (a&&& b)).length:Int)==0)=false:=by rw [AHl];omega
    generalize (ls b).length=n1 at *
    generalize (ls (a&&& b)).length=n2 at *
    generalize a&&& b=P at *
    clear ha hb ht h0 ht2 h1 M5
    go_enter func258,ntmps258
    go_wp2_with fail
    refine (M1.out _).mono ?_
    rintro e w' ⟨rfl,rfl⟩
    go_wp2_with fail
    refine (M2.out _).mono ?_
    rintro e w' ⟨rfl,rfl⟩
    go_wp2_with fail
    refine (M3.out _).mono ?_
    rintro e w' ⟨rfl,rfl⟩
    go_wp2_with fail
    refine (M4.out _).mono ?_
    rintro e w' ⟨rfl,rfl⟩
    go_wp2
    go_ret3
    exact ⟨rfl,rfl⟩
  ·rw [show cN a b c=((hd (nx (cS a b) c):Nat):Int) from (AHh h0).trans (AHh (by rw [ht2];simp))]
   rw [ht2] at M4
   generalize hd (nx (cS a b) c)=R at *
   by_cases h1:a&&& b=0
   ·rw [show cF a b=true from (AHh h0).trans (AHj h1)]
    rw [show cS a b=b from AHi h1] at M4 M5
    rw [h1,Gz] at M3
    rw [h1] at M2
    generalize (ls b).length=n1 at *
    clear ha hb ht h0 ht2 h1
    go_enter func258,ntmps258
    go_wp2_with fail
    refine (M1.out _).mono ?_
    rintro e w' ⟨rfl,rfl⟩
    go_wp2_with fail
    refine (M2.out _).mono ?_
    rintro e w' ⟨rfl,rfl⟩
    go_wp2_with fail
    refine (M3.out _).mono ?_
    rintro e w' ⟨rfl,rfl⟩
    go_wp2_with fail
    refine (M4.out _).mono ?_
    rintro e w' ⟨rfl,rfl⟩
    go_wp2_with fail
    refine (M5.out _ HT.out).mono ?_
    rintro e w' ⟨rfl,rfl⟩
    go_wp2
    go_ret3
    exact ⟨rfl,rfl⟩
   ·rw [show cF a b=false from (AHh h0).trans (AHk h1)]
    rw [show cS a b=a&&& b from AHh h1] at M4 M5
    have p2:=I' (F6 hb) h1
    have q2:(((ls (a&&& b)).length:Int)==0)=false:=by rw [AHl];omega
    generalize (ls b).length=n1 at *
    generalize (ls (a&&& b)).length=n2 at *
    generalize a&&& b=P at *
    clear ha hb ht h0 ht2 h1
    go_enter func258,ntmps258
    go_wp2_with fail
    refine (M1.out _).mono ?_
    rintro e w' ⟨rfl,rfl⟩
    go_wp2_with fail
    refine (M2.out _).mono ?_
    rintro e w' ⟨rfl,rfl⟩
    go_wp2_with fail
    refine (M3.out _).mono ?_
    rintro e w' ⟨rfl,rfl⟩
    go_wp2_with fail
    refine (M4.out _).mono ?_
    rintro e w' ⟨rfl,rfl⟩
    go_wp2_with fail
    refine (M5.out _ HT.out).mono ?_
    rintro e w' ⟨rfl,rfl⟩
    go_wp2
    go_ret3
    exact ⟨rfl,rfl⟩
open Go.Deep
variable {spare:Nat->Bool} {fs:Array Field} {w wr:World} {P:Program} {v:Value} {a:Option Addr} {e t:TypeId} {H:Type} {held:Bool} {base cap fuel len:Nat}
def J6 (k:Nat) (x:Int):Value:=if k=0 then .bool (x !=0) else if k=1 then .int .i64 x else .int .u64 x
def Si (k:Nat):TypeDesc:=if k=0 then .bool else if k=1 then .int .i64 else .int .u64
def kwf (k:Nat) (x:Int):Prop:=if k=0 then True else if k=1 then (Lit.int .i64 x).wf=true else (Lit.int .u64 x).wf=true
def TRow (w:World) (v:Value) (n:Nat) (ks:List Nat) (X:Nat->Nat->Int):Prop:=
 (n=0/\∃ a cap,v=.slice a 0 cap)\/∃ b off cap,v=.slice (some ⟨b,off,none⟩) n cap/\b<w.heap.size/\∀ i,i<n->∀ j,j<ks.length->w.cell? ⟨b,off+i*ks.length+j,none⟩=some (J6 (ks.getD j 1) (X i j))
def aK {ks:List Nat} {X:Nat->Nat->Int} (h:TRow w (.slice a len cap) len ks X) (hb:Below w.heap.size w wr) {k:Nat} (hk:(k:Int)<len):
 ∃ b off,a=some ⟨b,off,none⟩/\∀ j,j<ks.length->wr.cell? ⟨b,off+k*ks.length+j,none⟩=some (J6 (ks.getD j 1) (X k j)):=by
 rcases h with ⟨rfl,_⟩ | ⟨b,off,c,hv,hlt,hc⟩
 ·simp at hk
  omega
 ·simp only [Value.slice.injEq] at hv
  exact ⟨b,off,hv.1,λj hj=>(hb.cell (p:=⟨b,off+k*ks.length+j,none⟩) hlt).trans (hc k (by omega) j hj)⟩
def W8 {enc:TypeId×Value->H} {u:Value} {x:DataW H×List MemPlace} (k:Nat) (ht:P.underlying t=some (Si k)) (h:DataW.trod enc P w base spare held fuel t [u]=some x):∃ z:Int,u=J6 k z/\kwf k z:=by
 unfold Si at ht
 unfold J6 kwf
 by_cases k0:k=0
 ·rw [AHi k0] at ht
  obtain ⟨z,ez,_⟩:=DataW.trod_bool ht h
  simp at ez
  refine ⟨if z=true then 1 else 0,?_,?_⟩
  ·rw [AHi k0,ez]
   cases z <;> rfl
  ·rw [AHi k0]
   trivial
 ·rw [AHh k0] at ht
  by_cases k1:k=1
  ·rw [AHi k1] at ht
   obtain ⟨z,ez,_,wf⟩:=DataW.trod_int ht h
   simp at ez
   exact ⟨z,by rw [AHh k0,AHi k1,ez],by rw [AHh k0,AHi k1];exact wf⟩
  ·rw [AHh k1] at ht
   obtain ⟨z,ez,_,wf⟩:=DataW.trod_int ht h
   simp at ez
   exact ⟨z,by rw [AHh k0,AHh k1,ez],by rw [AHh k0,AHh k1];exact wf⟩
def Nd {enc:TypeId×Value->H} {cs:List Value} {x:DataW H×List MemPlace} (ks:List Nat)
 (he:P.underlying e=some (.struct fs)) (hs:fs.size=ks.length) (hl:cs.length=ks.length)
 (hk:∀ j,j<ks.length->∃ f,fs[j]?=some f/\f.offset=j/\P.cellsOf f.type=1/\P.underlying f.type=some (Si (ks.getD j 1)))
 (h:DataW.trod enc P w base spare held fuel e cs=some x):∃ g:Nat->Int,∀ j,j<ks.length->cs[j]?=some (J6 (ks.getD j 1) (g j))/\kwf (ks.getD j 1) (g j):=by
 obtain ⟨xs,n',_,_,_,hxl,hf⟩:=DataW.trod_struct he h
 have one:∀ j,j<ks.length->∃ z:Int,cs[j]?=some (J6 (ks.getD j 1) z)/\kwf (ks.getD j 1) z:=by
  intro j hj
  obtain ⟨f,e1,e2,e3,e4⟩:=hk j hj
  have g:=hf j f e1
  have hjl:j<cs.length:=by omega
  rw [e2,e3] at g
  have e5:(cs.drop j).take 1=[cs[j]]:=by
   rw [List.drop_eq_getElem_cons hjl]
   rfl
  rw [e5,ADZ (by omega)] at g
  obtain ⟨z,ez,wf⟩:=W8 _ e4 g
  exact ⟨z,by rw [ADZ hjl,ez],wf⟩
 obtain ⟨g,hg⟩:=choose_lt one
 exact ⟨g,hg⟩
theorem open_recx {enc:TypeId×Value->H} {x:DataW H×List MemPlace} (ks:List Nat)
 (ht:P.underlying t=some (.slice e)) (he:P.underlying e=some (.struct fs)) (ce:P.cellsOf e=ks.length) (hs:fs.size=ks.length) (hpos:0<ks.length)
 (hk:∀ j,j<ks.length->∃ f,fs[j]?=some f/\f.offset=j/\P.cellsOf f.type=1/\P.underlying f.type=some (Si (ks.getD j 1)))
 (h:DataW.trod enc P w base spare held fuel t [.slice a len cap]=some x):
 ∃ X:Nat->Nat->Int,TRow w (.slice a len cap) len ks X/\∀ i,i<len->∀ j,j<ks.length->kwf (ks.getD j 1) (X i j):=by
 rcases open_slice ht h with ⟨hcs,_⟩ | ⟨x,l,c,m,n,D,Pl,hcs,_,hl,_,hmm,_,hall⟩
 ·simp at hcs
  obtain ⟨rfl,rfl,rfl⟩:=hcs
  exact ⟨λ_ _=>0,Or.inl ⟨rfl,none,0,rfl⟩,λi hi=>by omega⟩
 ·simp at hcs
  obtain ⟨rfl,rfl,rfl⟩:=hcs
  have hlm:len<=m:=by rw [hmm];split <;> omega
  have each:∀ i,i<len->∃ g:Nat->Int,∀ j,j<ks.length->w.cell? (x.add (i*ks.length+j))=some (J6 (ks.getD j 1) (g j))/\kwf (ks.getD j 1) (g j):=by
   intro i hi
   obtain ⟨cs',h1,h2⟩:=hall i (by omega)
   rw [ce] at h1
   obtain ⟨_,hlen,hcell⟩:=World.cells?_some h1
   obtain ⟨g,hg⟩:=Nd ks he hs (by omega) hk h2
   refine ⟨g,λj hj=>⟨?_,(hg j hj).2⟩⟩
   have c1:=hcell j hj
   rw [add_add] at c1
   rw [c1]
   exact (hg j hj).1
  obtain ⟨X,hX⟩:=choose_lt each
  refine ⟨X,?_,λi hi j hj=>(hX i hi j hj).2⟩
  by_cases h0:len=0
  ·exact Or.inl ⟨h0,some x,cap,by rw [h0]⟩
  ·obtain ⟨b,off,spot⟩:=x
   have hc0:=(hX 0 (by omega) 0 hpos).1
   have hspot:spot=none:=by simpa [Addr.add] using World.cell?_spot hc0
   subst hspot
   have hb:b<w.heap.size:=World.block_lt_of_cell? w _ (by simpa [Addr.add] using hc0)
   refine Or.inr ⟨b,off,cap,rfl,hb,λi hi j hj=>?_⟩
   have:=(hX i hi j hj).1
   rwa [Addr.add_lit,<- AFd] at this
structure It where
 id:Int
 mask:Nat
 cpu:Int
 forced:Bool
def QF (b:Nat) (x:It):Bool:=!(tb b x.cpu) || (!(tb x.mask x.cpu)&&decide (x.mask&&& b≠0)) || (x.forced==tb x.mask x.cpu)
def gK (b:Nat) (x:It) (t1 t2 t3:Bool) (h1:tb b x.cpu=t1) (h2:tb x.mask x.cpu=t2) (h3:decide (x.mask&&& b≠0)=t3):QF b x=(!t1 || (!t2&&t3) || (x.forced==t2)):=by
 unfold QF
 rw [h1,h2,h3]
def QG (b:Nat) (x:It) (w:World) (hb:b<18446744073709551616) (hm:x.mask<18446744073709551616):
 Calls prog 210 #[.int .u64 (b:Int),.agg #[.int .i64 x.id,.int .u64 (x.mask:Int),.int .i64 x.cpu,.bool x.forced]] w λe w'=>e=.returned (.bool (QF b x))/\Below w.heap.size w w':=by
 have C1:Hid (∀ w,_):=λw=>As x.mask x.cpu w hm
 have C2:Hid (∀ w,_):=λw=>Lj x.mask b w hm hb
 have C3:Hid (∀ w,_):=λw=>CQ (x.mask&&& b) w (F6 hb)
 have C4:Hid (∀ w,_):=λw=>As b x.cpu w hb
 have W:=gK b x _ _ _ rfl rfl rfl
 have hp:decide ((0:Int)<((ls (x.mask&&& b)).length:Int))=decide (x.mask&&& b≠0):=by
  by_cases e:x.mask&&& b=0
  ·rw [e,Gz];rfl
  ·have:=I' (F6 hb) e
   rw [AHj e,AHj (by omega)]
 rw [W]
 have BL:Hid (∀ o,Below w.heap.size w (w.alloc o)):=λo=>(Below.refl _ _).alloc (ADW _) o
 generalize (ls (x.mask&&& b)).length=n3 at *
 generalize decide (x.mask&&& b≠0)=t3 at *
 generalize x.mask&&& b=P at *
 generalize tb b x.cpu=t1 at *
 generalize tb x.mask x.cpu=t2 at *
 generalize x.forced=t4 at *
 clear W hb hm
 cases t1 <;> cases t2 <;> cases t3 <;> cases t4
 all_goals (
  first | have hq:=of_decide_eq_true hp | have hq:=of_decide_eq_false hp
  go_enter func210,ntmps210
  go_wp2_with fail
  refine (C1.out _).mono ?_
  rintro e w' ⟨rfl,rfl⟩
  go_wp2_with fail
  refine (C2.out _).mono ?_
  rintro e w' ⟨rfl,rfl⟩
  go_wp2_with fail
  refine (C3.out _).mono ?_
  rintro e w' ⟨rfl,rfl⟩
  go_wp2_with fail
  refine (C4.out _).mono ?_
  rintro e w' ⟨rfl,rfl⟩
  go_wp2
  go_ret
  exact ⟨rfl,BL.out _⟩)
end Go.Proofs.YtdlhlfpigcgapaaGreatDoor.Aff

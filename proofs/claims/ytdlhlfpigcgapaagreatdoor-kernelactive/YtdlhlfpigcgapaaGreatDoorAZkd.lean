import Derived.Test.YtdlhlfpigcgapaaGreatDoorAZal
import Derived.Test.YtdlhlfpigcgapaaGreatDoorAZka
set_option maxRecDepth 100000
set_option maxHeartbeats 16000000
set_option linter.unusedVariables false
set_option linter.unusedSimpArgs false
set_option linter.defProp false
namespace Go.Proofs.YtdlhlfpigcgapaaGreatDoor.Krn
open Go.Proofs.Tryz
open Go.ChangeShapes Go.WideShapes Go.ChangeAt Go.RowKit
open Mm
variable {b:Nat} {F:List Nat}
abbrev Pt:=Nat×(KA->Prop)×List Nat
structure NB (S:KS) (w0 w:World) (z:Nat) (cs:List Value) (J:List Pt):Prop where
 kb:AB w z cs 68
 bel:Below z w0 w
 p:∀ j∈J,∀ a,j.2.1 a->Part a S 0 j.1 w j.2.2
 dis:J.Pairwise (λx y=>∀ g∈x.2.2,g∉y.2.2)
 gt:∀ j∈J,∀ g∈j.2.2,z<g/\g<w.heap.size
 tab:A9 w
 z1:1<=z
section
variable {S:KS} {w0 w w':World} {z:Nat} {cs:List Value} {J:List Pt}
def UJ (b:Below w.heap.size w w'):Fr w.heap.size [] w w':=⟨b.os,b.tape,b.output,b.size,λk hk _=>b.block k hk⟩
def NB.AA (h:NB S w0 w z cs J) {Z:List Nat} (f:Fr w.heap.size Z w w') (hz:z∉Z) (h0:0∉Z) (hJ:∀ j∈J,∀ g∈j.2.2,g∉Z) (hb:Below z w w'):NB S w0 w' z cs J where
 kb:=h.kb.AA f h.kb.lt hz
 bel:=h.bel.trans hb
 p:=λj hj a c=>(h.p j hj a c).AA f (hJ j hj) (λg hg=>(h.gt j hj g hg).2)
 dis:=h.dis
 gt:=λj hj g hg=>⟨(h.gt j hj g hg).1,AD7 (h.gt j hj g hg).2 f.size⟩
 tab:=Df h.tab (by have:=h.kb.lt;omega) f h0
 z1:=h.z1
def NB.add (h:NB S w0 w z cs J) (b:Below w.heap.size w w') {i:Nat} {c:KA->Prop} (np:∀ a,c a->Part a S 0 i w' F) (ge:∀ g∈F,w.heap.size<=g/\g<w'.heap.size):NB S w0 w' z cs ((i,c,F)::J):=by
 have k:=h.AA (UJ b) (by simp) (by simp) (λ_ _ _ _=>by simp) (b.mono (AFL h.kb.lt))
 have hz:=h.kb.lt
 refine ⟨k.kb,k.bel,λj hj=>?_,AER.2 ⟨λy hy g hg hg2=>?_,k.dis⟩,λj hj g hg=>?_,k.tab,k.z1⟩
 ·rcases AD0.1 hj with rfl | hj
  ·exact np
  ·exact k.p j hj
 ·have:=(h.gt y hy g hg2).2
  have:=(ge g hg).1
  omega
 ·rcases AD0.1 hj with rfl | hj
  ·have:=ge g hg
   exact ⟨by omega,this.2⟩
  ·exact k.gt j hj g hg
def NB.set (h:NB S w0 w z cs J) (i:Nat) (v:Value):NB S w0 (w.setCell ⟨z,i,none⟩ v) z (cs.set i v) J:=by
 have f:Fr w.heap.size [z] w (w.setCell ⟨z,i,none⟩ v):=(Fr.refl _ _ _).setCell (Or.inr (by simp)) _
 have hz:=h.kb.lt
 have hz1:=h.z1
 refine ⟨h.kb.set i v,h.bel.trans ⟨f.os,f.tape,f.output,f.size,λk hk=>f.block k (by omega) (by simp;omega)⟩,λj hj a c=>(h.p j hj a c).AA f (λg hg e=>?_) (λg hg=>(h.gt j hj g hg).2),h.dis,λj hj g hg=>⟨(h.gt j hj g hg).1,AD7 (h.gt j hj g hg).2 f.size⟩,Df h.tab (by omega) f (by simp;omega),h.z1⟩
 have:=(h.gt j hj g hg).1
 simp at e
 omega
end
section
variable {n:Nat} {w0 w w':World} {z:Nat} {cs:List Value} {J:List Pt}
def NB.s1 (h:NB (new n) w0 w z cs J) (h1:1<=n) (hb:w.heap.size=b) (t:Thr.TT w' b n (λ_=>false) (λ_=>Tm.zt)) (l:Below w.heap.size w w'):NB (new n) w0 w' z cs ((1,λa=>a.n=n/\a.th=b,[b,b+1,b+2])::J):=by
 have hi:=t.hi
 refine h.add l ?_ (λg hg=>by simp at hg;omega)
 rintro a ⟨rfl,rfl⟩
 exact ⟨t,λi=>⟨by simp [Tm.zt,new],by simp [Tm.zt,new],by simp [Tm.zt,new];omega,by simp [Tm.zt,new],by simp [Tm.zt,new]⟩,rfl⟩
def NB.s2 (h:NB (new n) w0 w z cs J) (hb:w.heap.size=b) (t:Rqu.RR w' b n 0 (λ_=>[])) (l:Below w.heap.size w w'):NB (new n) w0 w' z cs ((2,λa=>a.n=n/\a.rq=b,Rqu.rz b n)::J):=by
 have hi:=t.rb.hi
 refine h.add l ?_ (λg hg=>by have:=(Rqu.Ht _ _ _).1 hg;omega)
 rintro a ⟨rfl,rfl⟩
 exact ⟨t,rfl⟩
def NB.s3 (h:NB (new n) w0 w z cs J) (t:Tim.TX w' b n 0 (λ_=>[]) F) (hF:∀ g∈F,w.heap.size<=g) (l:Below w.heap.size w w'):NB (new n) w0 w' z cs ((3,λa=>a.n=n/\a.tm=b,F)::J):=by
 refine h.add l ?_ (λg hg=>⟨hF g hg,Tim.TX.lt t hg⟩)
 rintro a ⟨rfl,rfl⟩
 exact t
def NB.s4 (h:NB (new n) w0 w z cs J) (hb:w.heap.size=b) (t:Irq.IT w' b n (λ_=>Bm.zi)) (l:Below w.heap.size w w'):NB (new n) w0 w' z cs ((4,λa=>a.n=n/\a.iq=b,[b])::J):=by
 have hi:=t.lt
 refine h.add l ?_ (λg hg=>by simp at hg;omega)
 rintro a ⟨rfl,rfl⟩
 exact ⟨t,λi=>by simp [Bm.zi,new],rfl⟩
def NB.s5 (h:NB (new n) w0 w z cs J) (hb:w.heap.size=b) (t:Rou.RT w' b n (λ_=>-1)) (l:Below w.heap.size w w'):NB (new n) w0 w' z cs ((5,λa=>a.n=n/\a.rt=b,[b])::J):=by
 have hi:=t.lt
 refine h.add l ?_ (λg hg=>by simp at hg;omega)
 rintro a ⟨rfl,rfl⟩
 exact ⟨t,rfl⟩
def NB.s9 (h:NB (new n) w0 w z cs J) (hb:w.heap.size=b) (t:Spl.SL w' (b+1) b (List.replicate n 0)) (l:Fr w.heap.size [] w w'):NB (new n) w0 w' z cs ((9,λa=>a.n=n/\a.ct=b+1,[b+1,b])::J):=by
 have hi:=t.sb.lt
 have hj:=t.sg.lt
 refine h.add (l.below (by simp)) ?_ (λg hg=>by simp at hg;omega)
 rintro a ⟨rfl,e⟩
 unfold Part
 simp only [e]
 exact ⟨b,t,by simp [new],rfl⟩
def NB.s11 (h:NB (new n) w0 w z cs J) (hb:w.heap.size=b) (t:CJ.GT w' (b+2) b 0 (List.replicate n 0)) (l:Fr w.heap.size [] w w'):NB (new n) w0 w' z cs ((11,λa=>a.n=n/\a.gt=b+2,[b+2,b])::J):=by
 have hi:=t.sb.lt
 have hj:=t.sg.lt
 refine h.add (l.below (by simp)) ?_ (λg hg=>by simp at hg;omega)
 rintro a ⟨rfl,e⟩
 unfold Part
 simp only [e]
 exact ⟨b,t,by simp [new],rfl⟩
def NB.s13 (h:NB (new n) w0 w z cs J) (hb:w.heap.size=b) (t:Cor.CT w' (b+1) b (List.replicate n Cor.Co.kn)) (l:Below w.heap.size w w'):NB (new n) w0 w' z cs ((13,λa=>a.n=n/\a.co=b+1,[b+1,b])::J):=by
 have hi:=t.sb.lt
 have hj:=t.gb.lt
 refine h.add l ?_ (λg hg=>by simp at hg;omega)
 rintro a ⟨rfl,e⟩
 unfold Part
 simp only [e]
 exact ⟨b,_,t,by simp [new,Cor.Co.kn],by simp [new],rfl⟩
def NB.s14 (h:NB (new n) w0 w z cs J) (hb:w.heap.size=b) (t:Met.PM w' (b+1) b n (λ_=>Met.Mt.za)) (l:Below w.heap.size w w'):NB (new n) w0 w' z cs ((14,λa=>a.n=n/\a.mt=b+1,[b+1,b])::J):=by
 have hi:=Met.MT.slt t
 have hj:=Met.MT.Zx t
 refine h.add l ?_ (λg hg=>by simp at hg;omega)
 rintro a ⟨rfl,e⟩
 unfold Part
 simp only [e]
 exact ⟨b,_,t,λk hk=>⟨by simp [Met.Mt.za],by simp [Met.Mt.za],by simp [Met.Mt.za],by simp [Met.Mt.za],by simp [Met.Mt.za,Met.Mt.tk,Met.Mt.IH]⟩,rfl⟩
def NB.s12 (h:NB (new n) w0 w z cs J) (hb:w.heap.size=b):NB (new n) w0 (w.alloc (.cells #[.int .u64 0,.int .u64 0] 74)) z cs ((12,λa=>a.st=b,[b])::J):=by
 subst hb
 have B:=AB.new w [.int .u64 0,.int .u64 0] 74
 refine h.add (((Fr.refl w.heap.size [] w).alloc (ADW _) _).below (by simp)) ?_ (λg hg=>by have:=B.lt;simp at hg;omega)
 intro a e
 unfold Part
 simp only [e]
 exact ⟨⟨B,by constructor <;> simp [new]⟩,trivial⟩
def NB.s6 (h:NB (new n) w0 w z cs J) (hb:w.heap.size=b) (t:Wrk.GX w' b n (List.replicate (n+1) [])) (l:Below w.heap.size w w'):NB (new n) w0 w' z cs ((6,λa=>a.n=n/\a.wk=b,Wrk.gz b n)::J):=by
 have hi:=Wrk.GX.hi t
 refine h.add l ?_ (λg hg=>by have:=(Wrk.NI _ _ _).1 hg;omega)
 rintro a ⟨rfl,rfl⟩
 exact ⟨t,rfl⟩
def NB.s7 (h:NB (new n) w0 w z cs J) (hb:w.heap.size=b) (t:Wrk.CX w' b (List.replicate n [])) (l:Below w.heap.size w w'):NB (new n) w0 w' z cs ((7,λa=>a.n=n/\a.cl=b,Wrk.cz b n)::J):=by
 have hi:=Wrk.CX.hi t
 rw [AED] at hi
 refine h.add l ?_ (λg hg=>by have:=(Wrk.SA _ _ _).1 hg;omega)
 rintro a ⟨rfl,rfl⟩
 exact ⟨t,by simp [new],rfl⟩
def NB.bT (h:NB (new n) w0 w z cs J) (hb:w.heap.size=b):NB (new n) w0 (w.alloc (.cells #[.pointer none,.map none] 72)) z cs ((10,λa=>a.dk=b,[b])::J):=by
 subst hb
 have B:=AB.new w [.pointer none,.map none] 72
 refine h.add (((Fr.refl w.heap.size [] w).alloc (ADW _) _).below (by simp)) ?_ (λg hg=>by have:=B.lt;simp at hg;omega)
 intro a e
 unfold Part
 simp only [e]
 exact ⟨_,_,B,rfl,Or.inl ⟨rfl,λ_=>rfl⟩,by simp,λk hk=>by have:=B.lt;simp at hk;omega⟩
def NB.s8 (h:NB (new n) w0 w z cs J) {pb lb:Nat} {V:List Value} (t:Sta.SH w' b pb lb n 12 (List.replicate 12 0) V (List.replicate n [])) (hb:w.heap.size<=b/\w.heap.size<=pb/\w.heap.size<=lb/\∀ g∈Sta.bl V,w.heap.size<=g) (hv:∀ g∈Sta.bl V,g<w'.heap.size) (hp:Om.Pg 12 (List.replicate 12 0)) (l:Fr w.heap.size [] w w'):NB (new n) w0 w' z cs ((8,λa=>a.n=n/\a.ob=b,b::lb::pb::Sta.bl V)::J):=by
 obtain ⟨b1,b2,b3,b4⟩:=hb
 have i1:=t.st.sb.lt
 have i2:=t.st.sl.lt
 have i3:=t.po.sb.lt
 refine h.add (l.below (by simp)) ?_ (λg hg=>?_)
 ·rintro a ⟨rfl,rfl⟩
  exact ⟨pb,lb,V,t,Hm.xC _ _ hp,rfl⟩
 ·rcases AD0.1 hg with rfl | hg
  ·omega
  rcases AD0.1 hg with rfl | hg
  ·omega
  rcases AD0.1 hg with rfl | hg
  ·omega
  exact ⟨b4 g hg,hv g hg⟩
end
section
variable {n:Nat} {w0 w w':World} {z:Nat} {cs:List Value} {J:List Pt}
def nw1 (h:NB (new n) w0 w z cs J) (n1:(1:Int)<=n) (n2:(n:Int)<=64):Calls prog 26 #[.int .i64 (n:Int)] w λe w'=>∃ b,e=.returned (.tuple #[.pointer (some ⟨b+2,0,none⟩),.int .i64 0])/\NB (new n) w0 w' z cs ((1,λa=>a.n=n/\a.th=b,[b,b+1,b+2])::J):=by
 refine (Thr.YF n w n1 n2).mono ?_
 rintro e w' ⟨rfl,t,l,_⟩
 exact ⟨_,rfl,h.s1 (by omega) rfl t l⟩
def nw2 (h:NB (new n) w0 w z cs J) (n1:(1:Int)<=n) (n2:(n:Int)<=64):Calls prog 27 #[.int .i64 (n:Int)] w λe w'=>∃ b,e=.returned (.tuple #[.pointer (some ⟨b+2,0,none⟩),.int .i64 0])/\NB (new n) w0 w' z cs ((2,λa=>a.n=n/\a.rq=b,Rqu.rz b n)::J):=by
 refine (Rqu.Yd n w n1 n2).mono ?_
 rintro e w' ⟨rfl,t,l⟩
 exact ⟨_,rfl,h.s2 rfl t l⟩
def nw4 (h:NB (new n) w0 w z cs J) (n1:(1:Int)<=n) (n2:(n:Int)<=64):Calls prog 29 #[.int .i64 (n:Int)] w λe w'=>∃ b,e=.returned (.tuple #[.pointer (some ⟨b,0,none⟩),.int .i64 0])/\NB (new n) w0 w' z cs ((4,λa=>a.n=n/\a.iq=b,[b])::J):=by
 refine (Irq.Y7 n w n1 n2).mono ?_
 rintro e w' ⟨rfl,t,l,_⟩
 exact ⟨_,rfl,h.s4 rfl t l⟩
def nw5 (h:NB (new n) w0 w z cs J) (n1:(1:Int)<=n) (n2:(n:Int)<=64):Calls prog 30 #[.int .i64 (n:Int)] w λe w'=>∃ b,e=.returned (.tuple #[.pointer (some ⟨b,0,none⟩),.int .i64 0])/\NB (new n) w0 w' z cs ((5,λa=>a.n=n/\a.rt=b,[b])::J):=by
 refine (Rou.ZB n w n1 n2).mono ?_
 rintro e w' ⟨rfl,t,l,_⟩
 exact ⟨_,rfl,h.s5 rfl t l⟩
def nw6 (h:NB (new n) w0 w z cs J) (n1:(1:Int)<=n) (n2:(n:Int)<=64):Calls prog 31 #[.int .i64 (n:Int)] w λe w'=>∃ b,e=.returned (.tuple #[.pointer (some ⟨b+6,0,none⟩),.int .i64 0])/\NB (new n) w0 w' z cs ((6,λa=>a.n=n/\a.wk=b,Wrk.gz b n)::J):=by
 refine (Wrk.GZ n w n1 n2).mono ?_
 rintro e w' ⟨rfl,t,l⟩
 exact ⟨_,rfl,h.s6 rfl t l⟩
def nw7 (h:NB (new n) w0 w z cs J) (n1:(1:Int)<=n) (n2:(n:Int)<=64):Calls prog 32 #[.int .i64 (n:Int)] w λe w'=>∃ b,e=.returned (.tuple #[.pointer (some ⟨b+3,0,none⟩),.int .i64 0])/\NB (new n) w0 w' z cs ((7,λa=>a.n=n/\a.cl=b,Wrk.cz b n)::J):=by
 refine (Wrk.fC n w n1 n2).mono ?_
 rintro e w' ⟨rfl,t,l⟩
 exact ⟨_,rfl,h.s7 rfl t l⟩
def nw9 (h:NB (new n) w0 w z cs J) (n1:(1:Int)<=n) (n2:(n:Int)<=64):Calls prog 34 #[.int .i64 (n:Int)] w λe w'=>∃ b,e=.returned (.tuple #[.pointer (some ⟨b+1,0,none⟩),.int .i64 0])/\NB (new n) w0 w' z cs ((9,λa=>a.n=n/\a.ct=b+1,[b+1,b])::J):=by
 refine (Spl.Ka n w n1 n2).mono ?_
 rintro e w' ⟨rfl,t,l⟩
 exact ⟨_,rfl,h.s9 rfl t l⟩
def ADD (h:NB (new n) w0 w z cs J) (n1:(1:Int)<=n) (n2:(n:Int)<=64):Calls prog 35 #[.int .i64 (n:Int)] w λe w'=>∃ b,e=.returned (.tuple #[.pointer (some ⟨b+2,0,none⟩),.int .i64 0])/\NB (new n) w0 w' z cs ((11,λa=>a.n=n/\a.gt=b+2,[b+2,b])::J):=by
 refine (CJ.GZ n w n1 n2).mono ?_
 rintro e w' ⟨rfl,t,_,l⟩
 exact ⟨_,rfl,h.s11 rfl t l⟩
def ADE (h:NB (new n) w0 w z cs J) (n1:(1:Int)<=n) (n2:(n:Int)<=64):Calls prog 36 #[.int .i64 (n:Int)] w λe w'=>∃ b,e=.returned (.tuple #[.pointer (some ⟨b+1,0,none⟩),.int .i64 0])/\NB (new n) w0 w' z cs ((13,λa=>a.n=n/\a.co=b+1,[b+1,b])::J):=by
 refine (Cor.aQ n w n1 n2).mono ?_
 rintro e w' ⟨rfl,t,l⟩
 exact ⟨_,rfl,h.s13 rfl t l⟩
def ADF (h:NB (new n) w0 w z cs J) (n1:(1:Int)<=n) (n2:(n:Int)<=64):Calls prog 37 #[.int .i64 (n:Int)] w λe w'=>∃ b,e=.returned (.tuple #[.pointer (some ⟨b+1,0,none⟩),.int .i64 0])/\NB (new n) w0 w' z cs ((14,λa=>a.n=n/\a.mt=b+1,[b+1,b])::J):=by
 refine (Met.Z6 n w n1 n2).mono ?_
 rintro e w' ⟨rfl,t,l⟩
 exact ⟨_,rfl,h.s14 rfl t l⟩
def nw3 (h:NB (new n) w0 w z cs J) (n1:(1:Int)<=n) (n2:(n:Int)<=64):Calls prog 28 #[.int .i64 (n:Int)] w λe w'=>∃ b F,e=.returned (.tuple #[.pointer (some ⟨b,0,none⟩),.int .i64 0])/\NB (new n) w0 w' z cs ((3,λa=>a.n=n/\a.tm=b,F)::J):=by
 refine (Tim.eK n w n1 n2).mono ?_
 rintro e w' ⟨b,rfl,F,t,hF,l⟩
 exact ⟨_,_,rfl,h.s3 t hF l⟩
def nw8 (h:NB (new n) w0 w z cs J) (n1:(1:Int)<=n) (n2:(n:Int)<=64):Calls prog 33 #[.int .i64 (n:Int),.int .i64 12] w λe w'=>∃ b F,e=.returned (.tuple #[.pointer (some ⟨b,0,none⟩),.int .i64 0])/\NB (new n) w0 w' z cs ((8,λa=>a.n=n/\a.ob=b,F)::J):=by
 refine (Sta.Ec n 12 w n1 n2 (by decide) (by decide)).mono ?_
 rintro e w' ⟨b,pb,lb,V,rfl,t,hb,l⟩
 refine ⟨_,_,rfl,h.s8 t hb (λg hg=>?_) t.po.pg l⟩
 exact t.st.Gp hg
end
def pl:Hj Nat where
 n:=1
 f:=λb=>[.pointer (some ⟨b,0,none⟩)]
 z:=0
 len:=λ_=>rfl
 one:=λx u hu=>by simp at hu;subst hu;rfl
 pos:=by decide
def AAn (G:List Nat):pl.all G=G.map λb=>Value.pointer (some ⟨b,0,none⟩):=by
 induction G with
 | nil=>rfl
 | cons x G ih=>rw [Dc,ih];rfl
def Tryz.AAo:(prog.info? 99).map (λi=>(i.zero,i.size,i.bytes))=some (some (.pointer none),1,8):=by kernel_rfl
structure NG (n:Nat) (w0 w:World) (z:Nat) (cs:List Value) (J:List Pt) (a:Option Addr) (c:Nat) (G:List Nat):Prop where
 nb:NB (new n) w0 w z (cs++[.slice a G.length c]) J
 own:w.ownsRow 0 99 1 (.slice a G.length c) G.length (pl.all G)
 ob:∀ g,(Value.slice a G.length c).ownBlock=some g->z<g/\∀ j∈J,g∉j.2.2
 pg:∀ g∈G,Frq.PG w g 100 1000 (Frq.lf []) 0
 gz:∀ g∈G,z<g/\∀ j∈J,g∉j.2.2
section
variable {n:Nat} {w0 w w':World} {z:Nat} {cs:List Value} {J:List Pt} {a:Option Addr} {c:Nat} {G:List Nat}
def NG.start (h:NB (new n) w0 w z (cs++[.slice none 0 0]) J):NG n w0 w z cs J none 0 []:=⟨h,World.ownsRow_nil _ _ _ _,λg e=>(by cases e),λg hg=>(by cases hg),λg hg=>(by cases hg)⟩
def NG.AAp (h:NB (new n) w0 w z (cs++[.slice none 0 0]) J):∃ cs' J',cs'=cs/\J'=J/\NG n w0 w z cs' J' none 0 []:=⟨cs,J,rfl,rfl,NG.start h⟩
def NG.cell (h:NG n w0 w z cs J a c G) (hcs:cs.length=17):w.cell? ⟨z,17,none⟩=some (.slice a G.length c):=(h.nb.kb.cell 17).trans (by rw [<- hcs];simp)
def NG.below (h:NG n w0 w z cs J a c G) (b:Below w.heap.size w w'):NG n w0 w' z cs J a c G where
 nb:=h.nb.AA (Fr.AE b) (by simp) (by simp) (λ_ _ _ _=>by simp) (b.mono (AFL h.nb.kb.lt))
 own:=Ep h.own (Fr.AE b) λg e=>⟨Hi h.own e,by simp⟩
 ob:=h.ob
 pg:=λg hg=>(h.pg g hg).AA (Fr.AE b) (h.pg g hg).sb.lt (by simp)
 gz:=h.gz
def NG.app (h:NG n w0 w z cs J a c G) (hcs:cs.length=17) (hl:G.length<=64) {g:Nat} (p:Frq.PG w g 100 1000 (Frq.lf []) 0) (hg:z<g/\∀ j∈J,g∉j.2.2):
 ∃ a2 c2 w2,(Builtin.append_ #[64,64] 64 #[.slice a G.length c,.slice (some ⟨w.heap.size,0,none⟩) 1 1]).run prog (w.alloc (.cells #[.pointer (some ⟨g,0,none⟩)] 99))=.ok (.slice a2 (G.length+1) c2) w2/\w2.cell? ⟨z,17,none⟩=some (.slice a G.length c)/\w2.frozen? ⟨z,17,none⟩=false/\NG n w0 (w2.setCell ⟨z,17,none⟩ (.slice a2 (G.length+1) c2)) z cs J a2 c2 (G++[g]):=by
 obtain ⟨i0,hi0,hz0,hz1,hz2⟩:=info_parts Tryz.AAo
 obtain ⟨a2,c2,w2,run,o2,f,nn⟩:=cV (L:=pl) (P:=prog) w 99 64 64 i0 _ 8 underlying64 hi0 hz0 hz1 hz2 rfl (by decide) g h.own (by omega)
 have hz:=h.nb.kb.lt
 have hz1:=h.nb.z1
 have mz:∀ x,x∈(Value.slice a G.length c).ownBlock.toList->z<x/\∀ j∈J,x∉j.2.2:=λx hx=>h.ob x (by simpa using hx)
 have bl:Below z w w2:=(f.less (AFL hz)).below λx hx=>by have:=(mz x hx).1;omega
 have nb:=h.nb.AA f (λe=>by have:=(mz z e).1;omega) (λe=>by have:=(mz 0 e).1;omega) (λj hj x hx e=>(mz x e).2 j hj hx) bl
 have l17:(cs++[Value.slice a G.length c])[17]?=some (.slice a G.length c):=by rw [<- hcs];simp
 have s17:(cs++[Value.slice a G.length c]).set 17 (.slice a2 (G.length+1) c2)=cs++[.slice a2 (G++[g]).length c2]:=by
  rw [<- hcs]
  simp
 have nz:∀ x,(Value.slice a2 (G.length+1) c2).ownBlock=some x->z<x/\∀ j∈J,x∉j.2.2:=λx hx=>by
  rcases nn x hx with q | q
  ·exact h.ob x q
  ·refine ⟨by omega,λj hj e=>?_⟩
   have:=(h.nb.gt j hj x e).2
   omega
 have el:(G++[g]).length=G.length+1:=by simp
 have fs:Fr w2.heap.size [z] w2 (w2.setCell ⟨z,17,none⟩ (.slice a2 (G.length+1) c2)):=(Fr.refl _ _ _).st z 17 _ (by simp)
 refine ⟨a2,c2,w2,run,(nb.kb.cell 17).trans l17,nb.kb.free 17,⟨?_,?_,?_,?_,?_⟩⟩
 ·have:=nb.set 17 (.slice a2 (G.length+1) c2)
  rw [s17] at this
  exact this
 ·rw [el]
  rw [el] at o2
  exact Ep o2 fs λx hx=>⟨Hi o2 hx,by have:=(nz x hx).1;simp;omega⟩
 ·rw [el]
  exact nz
 ·have k1:∀ x,Frq.PG w x 100 1000 (Frq.lf []) 0->z<x->Frq.PG (w2.setCell ⟨z,17,none⟩ (.slice a2 (G.length+1) c2)) x 100 1000 (Frq.lf []) 0:=λx q l=>by
   have q2:=q.AA f q.sb.lt (λe=>UM h.own q.sb (by decide) (by simpa using e) rfl)
   exact q2.AA fs q2.sb.lt (by simp;omega)
  intro x hx
  rcases ADi.1 hx with e | e
  ·exact k1 x (h.pg x e) (h.gz x e).1
  ·rw [ADu.1 e];exact k1 g p hg.1
 ·intro x hx
  rcases ADi.1 hx with e | e
  ·exact h.gz x e
  ·rw [ADu.1 e];exact hg
def NG.done (h:NG n w0 w z cs J a c G) (hn:G.length=n) (h1:1<=n):∃ gv F,a=some ⟨gv,0,none⟩/\NB (new n) w0 w z (cs++[.slice a n c]) ((15,λA=>A.n=n/\A.gv=gv/\A.gs=λi=>G.getD i 0,F)::J):=by
 subst hn
 rcases h.own.2 with ⟨_,e2⟩ | ⟨gv,cap,cur,hv,_,hg,hnc,_,hsz,ht⟩
 ·omega
 ·simp only [Value.slice.injEq] at hv
  obtain ⟨ha,_,hc⟩:=hv
  have ov:(Value.slice a G.length c).ownBlock=some gv:=by rw [ha];rfl
  have hb:AB w gv cur.toList 99:=by unfold AB;rw [AEn];exact hg
  have eG:(List.range G.length).map (λi=>G.getD i 0)=G:=List.ext_getElem (by simp) λi h1 h2=>by simp [List.getD,h2]
  have ec:cur.toList=(List.range G.length).map (λi=>Value.pointer (some ⟨G.getD i 0,0,none⟩))++cur.toList.drop G.length:=by
   have e1:(List.range G.length).map (λi=>Value.pointer (some ⟨G.getD i 0,0,none⟩))=pl.all G:=by
    have:=AHo (List.map λb=>Value.pointer (some ⟨b,0,none⟩)) eG
    rw [List.map_map] at this
    rw [AAn]
    exact this
   rw [e1,<- ht,AEx,AFC]
  refine ⟨gv,gv::(List.range G.length).map (λi=>G.getD i 0),ha,h.nb.kb,h.nb.bel,λj hj=>?_,AER.2 ⟨λy hy g hg=>?_,h.nb.dis⟩,λj hj g hg=>?_,h.nb.tab,h.nb.z1⟩
  ·rcases AD0.1 hj with rfl | hj
   ·rintro A ⟨e1,e2,e3⟩
    unfold Part
    simp only
    rw [e1,e2,e3]
    refine ⟨cur.toList.drop G.length,by rw [<- ec];exact hb,λi hi=>?_,rfl⟩
    exact ⟨100,1000,_,_,h.pg (G.getD i 0) (by simp [List.getD,hi]),⟨by decide,by decide,by decide⟩⟩
   ·exact h.nb.p j hj
  ·rw [eG] at hg
   rcases AD0.1 hg with rfl | hg
   ·exact (h.ob _ ov).2 y hy
   ·exact (h.gz g hg).2 y hy
  ·rcases AD0.1 hj with rfl | hj
   ·simp only [eG] at hg
    rcases AD0.1 hg with rfl | hg
    ·exact ⟨(h.ob _ ov).1,hb.lt⟩
    ·exact ⟨(h.gz g hg).1,(h.pg g hg).sb.lt⟩
   ·exact h.nb.gt j hj g hg
end
def ACP {J:List Pt} (h:J.Pairwise (λx y=>∀ g∈x.2.2,g∉y.2.2)):∀ x∈J,∀ y∈J,x.1≠y.1->∀ g∈x.2.2,g∉y.2.2:=by
 induction h with
 | nil=>intro x hx;cases hx
 | cons hp _ ih=>
  intro x hx y hy ne g hg
  rcases AD0.1 hx with ex | hx2 <;> rcases AD0.1 hy with ey | hy2
  ·exact absurd (by rw [ex,ey]) ne
  ·subst ex;exact hp y hy2 g hg
  ·subst ey;intro e;exact hp x hx2 g e hg
  ·exact ih x hx2 y hy2 ne g hg
def NB.all {n:Nat} {w0 w:World} {z:Nat} {cs:List Value} {J:List Pt} (h:NB (new n) w0 w z cs J) (h1:1<=n) (h2:n<=64) (a:KA) (an:a.n=n) (az:a.k=z) (ha:∀ j∈J,j.2.1 a) (lim:Int) (hcs:cs=kc a (new n) lim) (ix:∀ i,1<=i->i<16->i∈J.map Prod.fst):KX z w0 [] a 0 (new n) w:=by
 subst az
 have ex:∀ i,∃ F:List Nat,(i=0/\F=[a.k])\/(1<=i/\i<16/\∃ j∈J,j.1=i/\j.2.2=F)\/16<=i:=λi=>by
  by_cases e:i=0
  ·exact ⟨_,Or.inl ⟨e,rfl⟩⟩
  ·by_cases l:i<16
   ·obtain ⟨j,hj,q⟩:=AE6.1 (ix i (by omega) l)
    exact ⟨_,Or.inr (Or.inl ⟨by omega,l,j,hj,q,rfl⟩)⟩
   ·exact ⟨[],Or.inr (Or.inr (by omega))⟩
 obtain ⟨F,hF⟩:=Classical.axiomOfChoice ex
 have hz:=h.kb.lt
 refine ⟨⟨F,⟨λi hi=>?_,λi k hi hk ne g hg=>?_,λi hi g hg=>?_⟩,λi hi g hg=>?_,λx hx=>by cases hx⟩,λx hx=>(by cases hx),h.bel,AFL hz,h.z1,h.tab,by omega,by omega⟩
 ·rcases hF i with ⟨rfl,e⟩ | ⟨_,_,j,hj,rfl,e⟩ | q
  ·rw [e]
   refine ⟨⟨lim,?_⟩,⟨Dy _,Dy _⟩,rfl⟩
   rw [<- hcs]
   exact h.kb
  ·rw [<- e]
   exact h.p j hj a (ha j hj)
  ·omega
 ·rcases hF i with ⟨rfl,e⟩ | ⟨_,_,j,hj,rfl,e⟩ | q
  ·rw [e] at hg
   have hg:=ADu.1 hg
   rcases hF k with ⟨rfl,e2⟩ | ⟨_,_,j2,hj2,rfl,e2⟩ | q2
   ·exact absurd rfl ne
   ·rw [<- e2,hg]
    intro q
    have:=(h.gt j2 hj2 _ q).1
    omega
   ·omega
  ·rw [<- e] at hg
   rcases hF k with ⟨rfl,e2⟩ | ⟨_,_,j2,hj2,rfl,e2⟩ | q2
   ·rw [e2]
    intro q
    rw [ADu.1 q] at hg
    have:=(h.gt j hj _ hg).1
    omega
   ·rw [<- e2]
    exact ACP h.dis j hj j2 hj2 ne g hg
   ·omega
  ·omega
 ·rcases hF i with ⟨rfl,e⟩ | ⟨_,_,j,hj,rfl,e⟩ | q
  ·rw [e] at hg
   rw [ADu.1 hg]
   exact hz
  ·rw [<- e] at hg
   exact (h.gt j hj g hg).2
  ·omega
 ·rcases hF i with ⟨rfl,e⟩ | ⟨_,_,j,hj,rfl,e⟩ | q
  ·rw [e] at hg
   rw [ADu.1 hg]
   exact ADW _
  ·rw [<- e] at hg
   have:=(h.gt j hj g hg).1
   omega
  ·omega
section
variable {B:Nat} {w0:World} {A:List (Nat×List Value×TypeId)} {a:KA} {m m':Nat} {S S':KS} {w w':World}
def lT (n:Nat) (w:World) (T:A9 w) (hs:1<=w.heap.size) (h1:1<=n) (h2:n<=64):Calls prog 7 #[.int .i64 (n:Int)] w λe w'=>∃ a,e=.returned (.tuple #[.pointer (some ⟨a.k,0,none⟩),.int .i64 0])/\a.n=n/\KX w.heap.size w [] a 0 (new n) w':=by
 have h0:NB (new n) w (w.alloc (.cells #[.int .u64 (up n:Int),.int .u64 (up n:Int),.int .i64 1073741824,.pointer none,.pointer none,.pointer none,.pointer none,.pointer none,.pointer none,.pointer none,.pointer none,.pointer none,.pointer (some ⟨w.heap.size+1,0,none⟩),.pointer none,.pointer (some ⟨w.heap.size+1+1,0,none⟩),.pointer none,.pointer none,.slice none 0 0] 68)) w.heap.size [.int .u64 (up n:Int),.int .u64 (up n:Int),.int .i64 1073741824,.pointer none,.pointer none,.pointer none,.pointer none,.pointer none,.pointer none,.pointer none,.pointer none,.pointer none,.pointer (some ⟨w.heap.size+1,0,none⟩),.pointer none,.pointer (some ⟨w.heap.size+1+1,0,none⟩),.pointer none,.pointer none,.slice none 0 0] []:=⟨AB.new w [.int .u64 (up n:Int),.int .u64 (up n:Int),.int .i64 1073741824,.pointer none,.pointer none,.pointer none,.pointer none,.pointer none,.pointer none,.pointer none,.pointer none,.pointer none,.pointer (some ⟨w.heap.size+1,0,none⟩),.pointer none,.pointer (some ⟨w.heap.size+1+1,0,none⟩),.pointer none,.pointer none,.slice none 0 0] 68,((Fr.refl w.heap.size [] w).alloc (ADW _) _).below (by simp),λj hj=>by simp at hj,List.Pairwise.nil,λj hj=>by simp at hj,Df T hs ((Fr.refl w.heap.size [] w).alloc (ADW _) _) (by simp),hs⟩
 have CU:Hid (∀ v,_):=λv=>Dj (n:Int) v
 have g0:=h0.bT (b:=w.heap.size+1) (by simp)
 have g0:=g0.s12 (b:=w.heap.size+1+1) (by simp)
 clear h0
 have n1:(1:Int)<=n:=by omega
 have n2:(n:Int)<=64:=by omega
 go_enter func7,ntmps7
 go_wp2_with fail
 refine (CU.out _).mono ?_
 rintro e w9 ⟨rfl,rfl⟩
 go_wp2_with fail
 refine (CU.out _).mono ?_
 rintro e w9 ⟨rfl,rfl⟩
 go_wp2_with fail
 refine (nw1 g0 n1 n2).mono ?_
 rintro e w1 ⟨b1,rfl,g1⟩
 have f1:w1.frozen? ⟨w.heap.size,3,none⟩=false:=g1.kb.free 3
 have c1:w1.cell? ⟨w.heap.size,3,none⟩=some (.pointer none):=g1.kb.cell 3
 have g1:=g1.set 3 (.pointer (some ⟨b1+2,0,none⟩))
 go_wp2_with fail
 refine (nw2 g1 n1 n2).mono ?_
 rintro e w2 ⟨b2,rfl,g2⟩
 have f2:w2.frozen? ⟨w.heap.size,4,none⟩=false:=g2.kb.free 4
 have c2:w2.cell? ⟨w.heap.size,4,none⟩=some (.pointer none):=g2.kb.cell 4
 have g2:=g2.set 4 (.pointer (some ⟨b2+2,0,none⟩))
 go_wp2_with fail
 refine (nw3 g2 n1 n2).mono ?_
 rintro e w3 ⟨b3,F3,rfl,g3⟩
 have f3:w3.frozen? ⟨w.heap.size,5,none⟩=false:=g3.kb.free 5
 have c3:w3.cell? ⟨w.heap.size,5,none⟩=some (.pointer none):=g3.kb.cell 5
 have g3:=g3.set 5 (.pointer (some ⟨b3,0,none⟩))
 go_wp2_with fail
 refine (nw4 g3 n1 n2).mono ?_
 rintro e w4 ⟨b4,rfl,g4⟩
 have f4:w4.frozen? ⟨w.heap.size,6,none⟩=false:=g4.kb.free 6
 have c4:w4.cell? ⟨w.heap.size,6,none⟩=some (.pointer none):=g4.kb.cell 6
 have g4:=g4.set 6 (.pointer (some ⟨b4,0,none⟩))
 go_wp2_with fail
 refine (nw5 g4 n1 n2).mono ?_
 rintro e w5 ⟨b5,rfl,g5⟩
 have f5:w5.frozen? ⟨w.heap.size,7,none⟩=false:=g5.kb.free 7
 have c5:w5.cell? ⟨w.heap.size,7,none⟩=some (.pointer none):=g5.kb.cell 7
 have g5:=g5.set 7 (.pointer (some ⟨b5,0,none⟩))
 go_wp2_with fail
 refine (nw6 g5 n1 n2).mono ?_
 rintro e w6 ⟨b6,rfl,g6⟩
 have f6:w6.frozen? ⟨w.heap.size,8,none⟩=false:=g6.kb.free 8
 have c6:w6.cell? ⟨w.heap.size,8,none⟩=some (.pointer none):=g6.kb.cell 8
 have g6:=g6.set 8 (.pointer (some ⟨b6+6,0,none⟩))
 go_wp2_with fail
 refine (nw7 g6 n1 n2).mono ?_
 rintro e w7 ⟨b7,rfl,g7⟩
 have f7:w7.frozen? ⟨w.heap.size,9,none⟩=false:=g7.kb.free 9
 have c7:w7.cell? ⟨w.heap.size,9,none⟩=some (.pointer none):=g7.kb.cell 9
 have g7:=g7.set 9 (.pointer (some ⟨b7+3,0,none⟩))
 go_wp2_with fail
 refine (nw8 g7 n1 n2).mono ?_
 rintro e w8 ⟨b8,F8,rfl,g8⟩
 have f8:w8.frozen? ⟨w.heap.size,10,none⟩=false:=g8.kb.free 10
 have c8:w8.cell? ⟨w.heap.size,10,none⟩=some (.pointer none):=g8.kb.cell 10
 have g8:=g8.set 10 (.pointer (some ⟨b8,0,none⟩))
 go_wp2_with fail
 refine (nw9 g8 n1 n2).mono ?_
 rintro e w9 ⟨b9,rfl,g9⟩
 have f9:w9.frozen? ⟨w.heap.size,11,none⟩=false:=g9.kb.free 11
 have c9:w9.cell? ⟨w.heap.size,11,none⟩=some (.pointer none):=g9.kb.cell 11
 have g9:=g9.set 11 (.pointer (some ⟨b9+1,0,none⟩))
 go_wp2_with fail
 refine (ADD g9 n1 n2).mono ?_
 rintro e w11 ⟨b11,rfl,g11⟩
 have f11:w11.frozen? ⟨w.heap.size,13,none⟩=false:=g11.kb.free 13
 have Ge:w11.cell? ⟨w.heap.size,13,none⟩=some (.pointer none):=g11.kb.cell 13
 have g11:=g11.set 13 (.pointer (some ⟨b11+2,0,none⟩))
 go_wp2_with fail
 refine (ADE g11 n1 n2).mono ?_
 rintro e w13 ⟨b13,rfl,g13⟩
 have f13:w13.frozen? ⟨w.heap.size,15,none⟩=false:=g13.kb.free 15
 have Fe:w13.cell? ⟨w.heap.size,15,none⟩=some (.pointer none):=g13.kb.cell 15
 have g13:=g13.set 15 (.pointer (some ⟨b13+1,0,none⟩))
 go_wp2_with fail
 refine (ADF g13 n1 n2).mono ?_
 rintro e w14 ⟨b14,rfl,g14⟩
 have f14:w14.frozen? ⟨w.heap.size,16,none⟩=false:=g14.kb.free 16
 have Ba:w14.cell? ⟨w.heap.size,16,none⟩=some (.pointer none):=g14.kb.cell 16
 have g14:=g14.set 16 (.pointer (some ⟨b14+1,0,none⟩))
 obtain ⟨cs,J,hcs,hJ,G0⟩:=NG.AAp (cs:=[.int .u64 (up n:Int),.int .u64 (up n:Int),.int .i64 1073741824,.pointer (some ⟨b1+2,0,none⟩),.pointer (some ⟨b2+2,0,none⟩),.pointer (some ⟨b3,0,none⟩),.pointer (some ⟨b4,0,none⟩),.pointer (some ⟨b5,0,none⟩),.pointer (some ⟨b6+6,0,none⟩),.pointer (some ⟨b7+3,0,none⟩),.pointer (some ⟨b8,0,none⟩),.pointer (some ⟨b9+1,0,none⟩),.pointer (some ⟨w.heap.size+1,0,none⟩),.pointer (some ⟨b11+2,0,none⟩),.pointer (some ⟨w.heap.size+1+1,0,none⟩),.pointer (some ⟨b13+1,0,none⟩),.pointer (some ⟨b14+1,0,none⟩)]) g14
 have hl17:cs.length=17:=by rw [hcs];rfl
 have CG:Hid (∀ v,_):=λv=>Frq.pY 100 1000 v ⟨by decide,by decide,by decide⟩
 have HCS:Hid (cs=[.int .u64 (up n:Int),.int .u64 (up n:Int),.int .i64 1073741824,.pointer (some ⟨b1+2,0,none⟩),.pointer (some ⟨b2+2,0,none⟩),.pointer (some ⟨b3,0,none⟩),.pointer (some ⟨b4,0,none⟩),.pointer (some ⟨b5,0,none⟩),.pointer (some ⟨b6+6,0,none⟩),.pointer (some ⟨b7+3,0,none⟩),.pointer (some ⟨b8,0,none⟩),.pointer (some ⟨b9+1,0,none⟩),.pointer (some ⟨w.heap.size+1,0,none⟩),.pointer (some ⟨b11+2,0,none⟩),.pointer (some ⟨w.heap.size+1+1,0,none⟩),.pointer (some ⟨b13+1,0,none⟩),.pointer (some ⟨b14+1,0,none⟩)]):=hcs
 have HJ:Hid (J=_):=hJ
 have HG0:Hid (NG n w _ w.heap.size cs J none 0 []):=G0
 clear hcs hJ g14 G0
 go_wp2
 go_loopw [152] (λi wr=>∃ (k:Nat) (av:Option Addr) (cv:Nat) (G:List Nat),(k:Int)<=n/\Hid (G.length=k/\NG n w wr w.heap.size cs J av cv G)/\i=.int .i64 k) (λi _=>n-(intOf i).toNat)
 case atStart=>exact ⟨0,none,0,[],by omega,⟨rfl,HG0.out⟩,rfl⟩
 case round=>
  obtain ⟨k,av,cv,G,hk,ng,rfl⟩:=hrel
  by_cases e:(k:Int)<n
  ·go_wp2_with fail
   refine (CG.out _).mono ?_
   rintro e w5 ⟨rfl,pg,bl⟩
   obtain ⟨rfl,ng2⟩:=ng.out
   have hzl:=ng2.nb.kb.lt
   have n5:=ng2.below bl
   obtain ⟨a2,c2,w6,run,d1,d2,n6⟩:=n5.app hl17 (by omega) pg ⟨hzl,λj hj e=>by have:=(ng2.nb.gt j hj _ e).2;omega⟩
   have d0:=n5.cell hl17
   have N6:Hid (NG n w (w6.setCell ⟨w.heap.size,17,none⟩ (.slice a2 (G.length+1) c2)) w.heap.size cs J a2 c2 (G++[wr.heap.size])):=n6
   clear ng ng2 n5 n6 pg bl hzl
   generalize hgl:G.length=gl at *
   have HGL:Hid (G.length=gl):=hgl
   clear hgl
   go_wp2_with (at_builtin;refine Td rfl (.tmp 163) (.tmp 165) 64 rfl rfl rfl run ?_)
   go_roundw
   case rel=>exact ⟨gl+1,a2,c2,_,by omega,⟨by simp [HGL.out],N6.out⟩,by go_num⟩
   case measure=>have:=HGL.out;simp [intOf];omega
  ·go_wp2
   go_ret2
   obtain ⟨rfl,ng2⟩:=ng.out
   have en:G.length=n:=by omega
   obtain ⟨gv,F,rfl,nb⟩:=ng2.done en h1
   refine ⟨⟨n,w.heap.size,b1,b2,b3,b4,b5,b6,b7,b8,b9+1,w.heap.size+1,b11+2,w.heap.size+1+1,b13+1,b14+1,gv,cv,λi=>G.getD i 0⟩,rfl,rfl,?_⟩
   refine nb.all h1 h2 _ rfl rfl (λj hj=>?_) 1073741824 (by rw [HCS.out];rfl) (λi i1 i2=>?_)
   ·rw [HJ.out] at hj
    simp only [AD0,ADt,or_false] at hj
    rcases hj with rfl | rfl | rfl | rfl | rfl | rfl | rfl | rfl | rfl | rfl | rfl | rfl | rfl | rfl | rfl
    ·exact ⟨rfl,rfl,rfl⟩
    all_goals first | exact ⟨rfl,rfl⟩ | rfl
   ·rw [HJ.out]
    simp only [List.map_cons,List.map_nil,AD0,ADt,or_false]
    omega
end
end Go.Proofs.YtdlhlfpigcgapaaGreatDoor.Krn

import Derived.Test.YtdlhlfpigcgapaaGreatDoorAZal
import Derived.Test.YtdlhlfpigcgapaaGreatDoorAZkt
import Derived.Conc.MuLone
set_option maxRecDepth 100000
set_option maxHeartbeats 16000000
set_option linter.unusedVariables false
set_option linter.unusedSimpArgs false
set_option linter.defProp false
namespace Go.Proofs.YtdlhlfpigcgapaaGreatDoor.Krn
open Go.Proofs.Tryz
open Go.ChangeShapes Go.WideShapes Go.ChangeAt Go.RowKit
open Mm
variable {b b0 b1 b2 be bk bw em f z:Nat} {c ec ei ek en:Int} {r:Int×Int×KS} {e:Ev} {cap:Array Value} {p:Value}
section
variable {B:Nat} {w0:World} {A:List (Nat×List Value×TypeId)} {a:KA} {m m':Nat} {S S':KS} {w w':World}
def Ak (f:Nat):Prop:=∀ (args:Array Value) (w:World),(callFunc f args).run prog w=.ok (.enter f args) w
def AS {fn:Func} {c:Code} (hf:prog.funcs[f]?=some fn) (hn:(fn.name== "runtime.NumGoroutine")=false) (hb:fn.body=some c):Ak f:=λargs w=>MuLone.run_callFunc_enter hf hn hb args w
def B7 (B:Nat) (w0:World) (a:KA) (A:List (Nat×List Value×TypeId)) (f:Nat) (args:Array Value) (m m':Nat) (S:KS) (r:Int×Int×KS):Prop:=
 ∀ A' w,(∀ x∈A,x∈A')->KX B w0 A' a m S w->Calls prog f args w λe w'=>e=.returned (.tuple #[.int .i64 r.1,.int .i64 r.2.1])/\KX B w0 A' a m' r.2.2 w'
def DO (B:Nat) (w0:World) (a:KA) (A:List (Nat×List Value×TypeId)) (f:Nat) (args:Array Value) (m m':Nat) (S:KS) (r:Int×KS):Prop:=
 ∀ A' w,(∀ x∈A,x∈A')->KX B w0 A' a m S w->Calls prog f args w λe w'=>e=.returned (.int .i64 r.1)/\KX B w0 A' a m' r.2 w'
def OkT (n:Nat) (t:Tm.Th):Prop:=t.mask<18446744073709551616/\0<=t.cpu/\t.cpu<n/\0<=t.timer/\t.timer<=48
def Oz (B:Nat) (w0:World) (a:KA) (A:List (Nat×List Value×TypeId)) (f:Nat) (cap:Array Value) (m m':Nat) (S:KS) (F:Tm.Th->Int×Int×KS):Prop:=
 ∀ t A' w,OkT a.n t->(∀ x∈A,x∈A')->KX B w0 A' a m S w->Calls prog f (#[.agg #[.int .i64 t.prio,.int .u64 (t.mask:Int),.int .i64 t.cpu,.bool t.forced,.bool t.sleeps,.int .i64 t.timer]]++cap) w λe w'=>e=.returned (.tuple #[.int .i64 (F t).1,.int .i64 (F t).2.1])/\KX B w0 A' a m' (F t).2.2 w'
def JD {x:Rec} {tmps:Array Value} (h:AB w z [.int .i64 x.kind,.int .i64 x.cpu,.int .i64 x.id,.int .i64 x.n,.int .i64 x.why] 37) (h2:tmps.getD 2 undef=.pointer (some ⟨z,0,none⟩)):
 (results Tryz.f44 tmps).run prog w=.ok (.agg #[.int .i64 x.kind,.int .i64 x.cpu,.int .i64 x.id,.int .i64 x.n,.int .i64 x.why]) w:=by
 obtain ⟨q0,q1,q2,q3,q4⟩:=Aq (b:=z) h
 rw [Hg (p:=2) (ty:=37) rfl,h2]
 simp [go_sem,q0,q1,q2,q3,q4]
def S6 (h:KX B w0 A a m S w) (f:Nat) (cap:Array Value) (hf:Ak f) (C:B7 B w0 a A f (cap) m m' S r):
 Calls prog 44 #[.func (.func f) #[] cap] w λe w'=>e=.returned (.agg #[.int .i64 1,.int .i64 0,.int .i64 (ret r.1 r.2.1).id,.int .i64 0,.int .i64 r.2.1])/\KX B w0 A a m' r.2.2 w':=by
 obtain ⟨r1,r2,T⟩:=r
 unfold ret
 simp only at *
 have ne0:∀ x∈A,x.1≠w.heap.size:=λx hx=>by have:=(h.bx x hx).lt;omega
 have h0:=h.new [.int .i64 0,.int .i64 0,.int .i64 0,.int .i64 0,.int .i64 0] 37
 have CC:Hid (Calls prog f (cap) (w.alloc (.cells #[.int .i64 0,.int .i64 0,.int .i64 0,.int .i64 0,.int .i64 0] 37)) _):=C _ _ (λx hx=>ADV _ hx) h0
 have FF:=hf
 unfold Ak at FF
 clear C hf
 by_cases q:r2=0
 ·subst q
  simp only [AHn]
  go_enter func44,ntmps44
  go_wp2_with fail
  refine CC.out.mono ?_
  rintro e w1 ⟨rfl,h1⟩
  have fq:∀ j,w1.frozen? ⟨w.heap.size,j,none⟩=false:=λj=>h1.AC.free j
  obtain ⟨z0,z1,z2,z3,z4⟩:=Aq (b:=w.heap.size) h1.AC
  go_wp2
  have h9:=h1
  have h9:=h9.AH ne0 h.sz 0 (.int .i64 1)
  have h9:=h9.AH ne0 h.sz 1 (.int .i64 0)
  have h9:=h9.AH ne0 h.sz 2 (.int .i64 r1)
  have h9:=h9.AH ne0 h.sz 3 (.int .i64 0)
  have h9:=h9.AH ne0 h.sz 4 (.int .i64 0)
  exact bodyPost_ret (JD (x:=⟨1,0,r1,0,0⟩) h9.AC rfl) rfl ⟨rfl,h9.drop⟩
 ·simp only [AHh q]
  have q2:(r2==0)=false:=by simpa using q
  go_enter func44,ntmps44
  go_wp2_with fail
  refine CC.out.mono ?_
  rintro e w1 ⟨rfl,h1⟩
  have fq:∀ j,w1.frozen? ⟨w.heap.size,j,none⟩=false:=λj=>h1.AC.free j
  obtain ⟨z0,z1,z2,z3,z4⟩:=Aq (b:=w.heap.size) h1.AC
  go_wp2
  have h9:=h1
  have h9:=h9.AH ne0 h.sz 0 (.int .i64 1)
  have h9:=h9.AH ne0 h.sz 1 (.int .i64 0)
  have h9:=h9.AH ne0 h.sz 2 (.int .i64 0)
  have h9:=h9.AH ne0 h.sz 3 (.int .i64 0)
  have h9:=h9.AH ne0 h.sz 4 (.int .i64 r2)
  exact bodyPost_ret (JD (x:=⟨1,0,0,0,r2⟩) h9.AC rfl) rfl ⟨rfl,h9.drop⟩
def S7 (h:KX B w0 A a m S w) (f:Nat) (p:Value) (hf:Ak f) (C:B7 B w0 a A f (#[p]) m m' S r):
 Calls prog 44 #[.func (.func f) #[p] #[]] w λe w'=>e=.returned (.agg #[.int .i64 1,.int .i64 0,.int .i64 (ret r.1 r.2.1).id,.int .i64 0,.int .i64 r.2.1])/\KX B w0 A a m' r.2.2 w':=by
 obtain ⟨r1,r2,T⟩:=r
 unfold ret
 simp only at *
 have ne0:∀ x∈A,x.1≠w.heap.size:=λx hx=>by have:=(h.bx x hx).lt;omega
 have h0:=h.new [.int .i64 0,.int .i64 0,.int .i64 0,.int .i64 0,.int .i64 0] 37
 have CC:Hid (Calls prog f (#[p]) (w.alloc (.cells #[.int .i64 0,.int .i64 0,.int .i64 0,.int .i64 0,.int .i64 0] 37)) _):=C _ _ (λx hx=>ADV _ hx) h0
 have FF:=hf
 unfold Ak at FF
 clear C hf
 by_cases q:r2=0
 ·subst q
  simp only [AHn]
  go_enter func44,ntmps44
  go_wp2_with fail
  refine CC.out.mono ?_
  rintro e w1 ⟨rfl,h1⟩
  have fq:∀ j,w1.frozen? ⟨w.heap.size,j,none⟩=false:=λj=>h1.AC.free j
  obtain ⟨z0,z1,z2,z3,z4⟩:=Aq (b:=w.heap.size) h1.AC
  go_wp2
  have h9:=h1
  have h9:=h9.AH ne0 h.sz 0 (.int .i64 1)
  have h9:=h9.AH ne0 h.sz 1 (.int .i64 0)
  have h9:=h9.AH ne0 h.sz 2 (.int .i64 r1)
  have h9:=h9.AH ne0 h.sz 3 (.int .i64 0)
  have h9:=h9.AH ne0 h.sz 4 (.int .i64 0)
  exact bodyPost_ret (JD (x:=⟨1,0,r1,0,0⟩) h9.AC rfl) rfl ⟨rfl,h9.drop⟩
 ·simp only [AHh q]
  have q2:(r2==0)=false:=by simpa using q
  go_enter func44,ntmps44
  go_wp2_with fail
  refine CC.out.mono ?_
  rintro e w1 ⟨rfl,h1⟩
  have fq:∀ j,w1.frozen? ⟨w.heap.size,j,none⟩=false:=λj=>h1.AC.free j
  obtain ⟨z0,z1,z2,z3,z4⟩:=Aq (b:=w.heap.size) h1.AC
  go_wp2
  have h9:=h1
  have h9:=h9.AH ne0 h.sz 0 (.int .i64 1)
  have h9:=h9.AH ne0 h.sz 1 (.int .i64 0)
  have h9:=h9.AH ne0 h.sz 2 (.int .i64 0)
  have h9:=h9.AH ne0 h.sz 3 (.int .i64 0)
  have h9:=h9.AH ne0 h.sz 4 (.int .i64 r2)
  exact bodyPost_ret (JD (x:=⟨1,0,0,0,r2⟩) h9.AC rfl) rfl ⟨rfl,h9.drop⟩
def Ai (f:Nat) (fs cap:Array Value) (w:World):Calls prog 91 #[.func (.func f) fs cap] w λe w'=>e=.returned (.func (.func 147) #[] #[.pointer (some ⟨w.heap.size,0,none⟩)])/\w'=w.alloc (.cells #[.func (.func f) fs cap] 213):=by
 have hmf:∀ (fn:Fn) (first cap:Array Value) (w:World),(Instr.makeFunc fn first cap).run prog w=.ok (.func fn first cap) w:=λ_ _ _ _=>rfl
 go_enter func91,ntmps91
 go_wp2
 go_ret
 exact ⟨rfl,rfl⟩
def Ad {r:Int×KS} (hb:(b,[Value.func (.func f) #[] cap],213)∈A) (hf:Ak f) (C:DO B w0 a A f cap m m' S r):B7 B w0 a A 147 #[.pointer (some ⟨b,0,none⟩)] m m' S (no r):=by
 intro A' w sub h
 obtain ⟨r1,T⟩:=r
 unfold no
 simp only at *
 have c0:w.cell? ⟨b,0,none⟩=some (.func (.func f) #[] cap):=(h.bx _ (sub _ hb)).cell 0
 have CC:Hid (Calls prog f cap w _):=C _ _ sub h
 have FF:=hf
 unfold Ak at FF
 clear C hf
 go_enter func147,ntmps147
 go_wp2_with fail
 refine CC.out.mono ?_
 rintro e w1 ⟨rfl,h1⟩
 go_wp2
 go_ret2
 exact ⟨rfl,h1⟩
def C9 (id:Int) (f:Nat) (fs cap:Array Value) (w:World):Calls prog 82 #[.pointer (some ⟨a.k,0,none⟩),.int .i64 id,.func (.func f) fs cap] w λe w'=>e=.returned (.func (.func 137) #[] #[.pointer (some ⟨w.heap.size,0,none⟩),.pointer (some ⟨w.heap.size+1,0,none⟩),.pointer (some ⟨w.heap.size+2,0,none⟩)])/\w'=((w.alloc (.cells #[.pointer (some ⟨a.k,0,none⟩)] 23)).alloc (.cells #[.int .i64 id] 3)).alloc (.cells #[.func (.func f) fs cap] 209):=by
 have hmf:∀ (fn:Fn) (first cap:Array Value) (w:World),(Instr.makeFunc fn first cap).run prog w=.ok (.func fn first cap) w:=λ_ _ _ _=>rfl
 go_enter func82,ntmps82
 go_wp2
 go_ret
 exact ⟨rfl,rfl⟩
def DK (id:Int) (f:Nat) (fs cap:Array Value) (w:World):Calls prog 156 #[.pointer (some ⟨a.k,0,none⟩),.int .i64 id,.func (.func f) fs cap] w λe w'=>e=.returned (.func (.func 220) #[] #[.pointer (some ⟨w.heap.size,0,none⟩),.pointer (some ⟨w.heap.size+1,0,none⟩),.pointer (some ⟨w.heap.size+2,0,none⟩)])/\w'=((w.alloc (.cells #[.pointer (some ⟨a.k,0,none⟩)] 23)).alloc (.cells #[.int .i64 id] 3)).alloc (.cells #[.func (.func f) fs cap] 257):=by
 have hmf:∀ (fn:Fn) (first cap:Array Value) (w:World),(Instr.makeFunc fn first cap).run prog w=.ok (.func fn first cap) w:=λ_ _ _ _=>rfl
 go_enter func156,ntmps156
 go_wp2
 go_ret
 exact ⟨rfl,rfl⟩
def Cn {id:Int} {F:Tm.Th->Int×Int×KS} (h0:(b0,[.pointer (some ⟨a.k,0,none⟩)],23)∈A) (h1:(b1,[Value.int .i64 id],3)∈A) (h2:(b2,[Value.func (.func f) #[] cap],209)∈A) (hf:Ak f) (hmm:m<=m') (C:Oz B w0 a A f cap m m' S F):B7 B w0 a A 137 #[.pointer (some ⟨b0,0,none⟩),.pointer (some ⟨b1,0,none⟩),.pointer (some ⟨b2,0,none⟩)] m m' S (Nk S id F):=by
 intro A' w sub h
 have c0:w.cell? ⟨b0,0,none⟩=some (.pointer (some ⟨a.k,0,none⟩)):=(h.bx _ (sub _ h0)).cell 0
 have c1:w.cell? ⟨b1,0,none⟩=some (.int .i64 id):=(h.bx _ (sub _ h1)).cell 0
 have c2:w.cell? ⟨b2,0,none⟩=some (.func (.func f) #[] cap):=(h.bx _ (sub _ h2)).cell 0
 have c3:=h.c3
 have ne0:=World.new_ne w _ c0
 have ne1:=World.new_ne w _ c1
 have ne3:=World.new_ne w _ c3
 have ne2:=World.new_ne w _ c2
 have neA:∀ x∈A',x.1≠w.heap.size:=λx hx=>by have:=(h.bx x hx).lt;omega
 have G:Hid (∀ v,Sm v w->_):=λv s=>Gd (h.sm s) id
 have G2:Hid (∀ v,Sm v (w.alloc (.cells #[.int .i64 0,.int .u64 0,.int .i64 0,.bool false,.bool false,.int .i64 0] 138))->_):=λv s=>Gd ((h.new [.int .i64 0,.int .u64 0,.int .i64 0,.bool false,.bool false,.int .i64 0] 138).sm s) id
 have g:OkT a.n (Ao S id):=KH h id
 have FF:=hf
 unfold Ak at FF
 unfold Nk
 by_cases q:ER S id=0
 ·simp only [AHi q]
  rw [q] at G G2
  have CC:Hid (∀ v A2,(∀ x∈A',x∈A2)->KX B w0 A2 a m S v->_):=λv A2 s2 k=>C (Ao S id) A2 v g (λx hx=>s2 x (sub x hx)) k
  generalize F (Ao S id)=r at *
  generalize Ao S id=t at *
  obtain ⟨t0,t1,t2,t3,t4,t5⟩:=t
  simp only at *
  obtain ⟨r1,r2,r3⟩:=r
  simp only at *
  clear C g hf
  go_enter func137,ntmps137
  go_wp2_with fail
  go_region_held3 (λw'=>w'.cell? ⟨b0,0,none⟩=some (.pointer (some ⟨a.k,0,none⟩))/\w'.cell? ⟨b1,0,none⟩=some (.int .i64 id)/\w'.cell? ⟨a.k,3,none⟩=some (.pointer (some ⟨a.th+2,0,none⟩))) (go_keep)
   (first | (go_at_call 138;refine (G.out _ ?_).mono ?_;(exact ⟨rfl,rfl,rfl,rfl⟩);rintro e w1 ⟨rfl,hw1⟩;have d0:w1.cell? ⟨b0,0,none⟩=some (.pointer (some ⟨a.k,0,none⟩)):=(hw1.bx _ (sub _ h0)).cell 0;have d1:w1.cell? ⟨b1,0,none⟩=some (.int .i64 id):=(hw1.bx _ (sub _ h1)).cell 0;have d3:=hw1.c3;have d2:w1.cell? ⟨b2,0,none⟩=some (.func (.func f) #[] cap):=(hw1.bx _ (sub _ h2)).cell 0) | (go_at_call 138;refine (G2.out _ ?_).mono ?_;(exact ⟨rfl,rfl,rfl,rfl⟩);rintro e w1 ⟨rfl,hw1⟩;have d0:w1.cell? ⟨b0,0,none⟩=some (.pointer (some ⟨a.k,0,none⟩)):=(hw1.bx _ (ADV _ (sub _ h0))).cell 0;have d1:w1.cell? ⟨b1,0,none⟩=some (.int .i64 id):=(hw1.bx _ (ADV _ (sub _ h1))).cell 0;have d3:=hw1.c3;have d2:w1.cell? ⟨b2,0,none⟩=some (.func (.func f) #[] cap):=(hw1.bx _ (ADV _ (sub _ h2))).cell 0;have fq:∀ j,w1.frozen? ⟨w.heap.size,j,none⟩=false:=λj=>hw1.AC.free j;have z0:w1.cell? ⟨w.heap.size,0,none⟩=some (.int .i64 0):=hw1.AC.cell 0;have z1:w1.cell? ⟨w.heap.size,1,none⟩=some (.int .u64 0):=hw1.AC.cell 1;have z2:w1.cell? ⟨w.heap.size,2,none⟩=some (.int .i64 0):=hw1.AC.cell 2;have z3:w1.cell? ⟨w.heap.size,3,none⟩=some (.bool false):=hw1.AC.cell 3;have z4:w1.cell? ⟨w.heap.size,4,none⟩=some (.bool false):=hw1.AC.cell 4;have z5:w1.cell? ⟨w.heap.size,5,none⟩=some (.int .i64 0):=hw1.AC.cell 5))
  ·have n2:=World.new_ne w1 _ d2
   have h3:=hw1.new [.int .i64 t0,.int .u64 (t1:Int),.int .i64 t2,.bool t3,.bool t4,.int .i64 t5] 138
   have e2:=((h3.bx (b2,[Value.func (.func f) #[] cap],209) (ADV _ (sub _ h2))).cell 0).trans (rfl:_=some (Value.func (.func f) #[] cap))
   have g0:=(h3.AC.cell 0).trans (rfl:_=some (.int .i64 t0:Value))
   have g1:=(h3.AC.cell 1).trans (rfl:_=some (.int .u64 (t1:Int):Value))
   have g2:=(h3.AC.cell 2).trans (rfl:_=some (.int .i64 t2:Value))
   have g3:=(h3.AC.cell 3).trans (rfl:_=some (.bool t3:Value))
   have g4:=(h3.AC.cell 4).trans (rfl:_=some (.bool t4:Value))
   have g5:=(h3.AC.cell 5).trans (rfl:_=some (.int .i64 t5:Value))
   try simp only at e2
   go_wp2_with fail
   refine (CC.out _ _ (λx hx=>ADV _ hx) h3).mono ?_
   rintro e w5 ⟨rfl,h5⟩
   go_wp2
   go_ret2
   exact ⟨rfl,h5.drop⟩
  ·have h3:=hw1
   have h3:=h3.AH neA h.sz 0 (.int .i64 t0)
   have h3:=h3.AH neA h.sz 1 (.int .u64 (t1:Int))
   have h3:=h3.AH neA h.sz 2 (.int .i64 t2)
   have h3:=h3.AH neA h.sz 3 (.bool t3)
   have h3:=h3.AH neA h.sz 4 (.bool t4)
   have h3:=h3.AH neA h.sz 5 (.int .i64 t5)
   have e2:=((h3.bx (b2,[Value.func (.func f) #[] cap],209) (ADV _ (sub _ h2))).cell 0).trans (rfl:_=some (Value.func (.func f) #[] cap))
   have g0:=(h3.AC.cell 0).trans (rfl:_=some (.int .i64 t0:Value))
   have g1:=(h3.AC.cell 1).trans (rfl:_=some (.int .u64 (t1:Int):Value))
   have g2:=(h3.AC.cell 2).trans (rfl:_=some (.int .i64 t2:Value))
   have g3:=(h3.AC.cell 3).trans (rfl:_=some (.bool t3:Value))
   have g4:=(h3.AC.cell 4).trans (rfl:_=some (.bool t4:Value))
   have g5:=(h3.AC.cell 5).trans (rfl:_=some (.int .i64 t5:Value))
   try simp only at e2
   go_wp2_with fail
   refine (CC.out _ _ (λx hx=>ADV _ hx) h3).mono ?_
   rintro e w5 ⟨rfl,h5⟩
   go_wp2
   go_ret2
   exact ⟨rfl,h5.drop⟩
 ·simp only [AHh q]
  generalize ER S id=y at *
  have q2:(y==0)=false:=by simpa using q
  generalize Ao S id=t at *
  obtain ⟨t0,t1,t2,t3,t4,t5⟩:=t
  simp only at *
  clear C g hf
  go_enter func137,ntmps137
  go_wp2_with fail
  go_region_held3 (λw'=>w'.cell? ⟨b0,0,none⟩=some (.pointer (some ⟨a.k,0,none⟩))/\w'.cell? ⟨b1,0,none⟩=some (.int .i64 id)/\w'.cell? ⟨a.k,3,none⟩=some (.pointer (some ⟨a.th+2,0,none⟩))) (go_keep)
   (first | (go_at_call 138;refine (G.out _ ?_).mono ?_;(exact ⟨rfl,rfl,rfl,rfl⟩);rintro e w1 ⟨rfl,hw1⟩;have d0:w1.cell? ⟨b0,0,none⟩=some (.pointer (some ⟨a.k,0,none⟩)):=(hw1.bx _ (sub _ h0)).cell 0;have d1:w1.cell? ⟨b1,0,none⟩=some (.int .i64 id):=(hw1.bx _ (sub _ h1)).cell 0;have d3:=hw1.c3;have d2:w1.cell? ⟨b2,0,none⟩=some (.func (.func f) #[] cap):=(hw1.bx _ (sub _ h2)).cell 0) | (go_at_call 138;refine (G2.out _ ?_).mono ?_;(exact ⟨rfl,rfl,rfl,rfl⟩);rintro e w1 ⟨rfl,hw1⟩;have d0:w1.cell? ⟨b0,0,none⟩=some (.pointer (some ⟨a.k,0,none⟩)):=(hw1.bx _ (ADV _ (sub _ h0))).cell 0;have d1:w1.cell? ⟨b1,0,none⟩=some (.int .i64 id):=(hw1.bx _ (ADV _ (sub _ h1))).cell 0;have d3:=hw1.c3;have d2:w1.cell? ⟨b2,0,none⟩=some (.func (.func f) #[] cap):=(hw1.bx _ (ADV _ (sub _ h2))).cell 0;have fq:∀ j,w1.frozen? ⟨w.heap.size,j,none⟩=false:=λj=>hw1.AC.free j;have z0:w1.cell? ⟨w.heap.size,0,none⟩=some (.int .i64 0):=hw1.AC.cell 0;have z1:w1.cell? ⟨w.heap.size,1,none⟩=some (.int .u64 0):=hw1.AC.cell 1;have z2:w1.cell? ⟨w.heap.size,2,none⟩=some (.int .i64 0):=hw1.AC.cell 2;have z3:w1.cell? ⟨w.heap.size,3,none⟩=some (.bool false):=hw1.AC.cell 3;have z4:w1.cell? ⟨w.heap.size,4,none⟩=some (.bool false):=hw1.AC.cell 4;have z5:w1.cell? ⟨w.heap.size,5,none⟩=some (.int .i64 0):=hw1.AC.cell 5))
  ·have n2:=World.new_ne w1 _ d2
   have h3:=hw1.new [.int .i64 t0,.int .u64 (t1:Int),.int .i64 t2,.bool t3,.bool t4,.int .i64 t5] 138
   go_wp2
   go_ret2
   exact ⟨rfl,h3.drop.more hmm⟩
  ·have h3:=hw1
   have h3:=h3.AH neA h.sz 0 (.int .i64 t0)
   have h3:=h3.AH neA h.sz 1 (.int .u64 (t1:Int))
   have h3:=h3.AH neA h.sz 2 (.int .i64 t2)
   have h3:=h3.AH neA h.sz 3 (.bool t3)
   have h3:=h3.AH neA h.sz 4 (.bool t4)
   have h3:=h3.AH neA h.sz 5 (.int .i64 t5)
   go_wp2
   go_ret2
   exact ⟨rfl,h3.drop.more hmm⟩
end
section
variable {B:Nat} {w0:World} {A:List (Nat×List Value×TypeId)} {a:KA} {m m':Nat} {S S':KS} {w w':World}
def KO (h0:(b0,[.pointer (some ⟨a.k,0,none⟩)],23)∈A) (h1:(b1,[Value.int .i64 c],3)∈A) (h2:(b2,[Value.func (.func f) #[] cap],257)∈A) (hf:Ak f) (hmm:m<=m') (C:B7 B w0 a A f (#[.int .i64 c]++cap) m m' S r):B7 B w0 a A 220 #[.pointer (some ⟨b0,0,none⟩),.pointer (some ⟨b1,0,none⟩),.pointer (some ⟨b2,0,none⟩)] m m' S (IU a.n S c r):=by
 intro A' w sub h
 have c0:w.cell? ⟨b0,0,none⟩=some (.pointer (some ⟨a.k,0,none⟩)):=(h.bx _ (sub _ h0)).cell 0
 have c1:w.cell? ⟨b1,0,none⟩=some (.int .i64 c):=(h.bx _ (sub _ h1)).cell 0
 have c2:w.cell? ⟨b2,0,none⟩=some (Value.func (.func f) #[] cap):=(h.bx _ (sub _ h2)).cell 0
 have k1:=h.c1
 have CI:Hid (∀ _:Unit,_):=λ_=>Gf h c
 have CH:Hid (∀ u,_):=λu=>As S.ac c u h.kb.2.2
 have CC:Hid (∀ v,Sm v w->_):=λv s=>C A' v sub (h.sm s)
 have FF:=hf
 unfold Ak at FF
 obtain ⟨r1,r2,T⟩:=r
 simp only at *
 clear C hf
 unfold IU
 cases q1:AJ a.n c
 ·simp only [AHn]
  rw [q1] at CI
  go_enter func220,ntmps220
  go_wp2_with fail
  refine (CI.out ()).mono ?_
  rintro e w1 ⟨rfl,rfl⟩
  go_wp2
  go_ret2
  exact ⟨rfl,h.more hmm⟩
 ·simp only [AE1,AHm]
  rw [q1] at CI
  cases q2:tb S.ac c
  ·simp only [AHn]
   rw [q2] at CH
   go_enter func220,ntmps220
   go_wp2_with fail
   refine (CI.out ()).mono ?_
   rintro e w1 ⟨rfl,rfl⟩
   go_wp2_with fail
   go_region_held3 (λw'=>w'.cell? ⟨b0,0,none⟩=some (.pointer (some ⟨a.k,0,none⟩))/\w'.cell? ⟨b1,0,none⟩=some (.int .i64 c)/\w'.cell? ⟨a.k,1,none⟩=some (.int .u64 (S.ac:Int))) (go_keep)
    (first | (go_at_call 12;refine (CH.out _).mono ?_;rintro e w2 ⟨rfl,rfl⟩))
   go_wp2
   go_ret2
   exact ⟨rfl,h.drew.more hmm⟩
  ·simp only [AE1,AHm]
   rw [q2] at CH
   go_enter func220,ntmps220
   go_wp2_with fail
   refine (CI.out ()).mono ?_
   rintro e w1 ⟨rfl,rfl⟩
   go_wp2_with fail
   go_region_held3 (λw'=>w'.cell? ⟨b0,0,none⟩=some (.pointer (some ⟨a.k,0,none⟩))/\w'.cell? ⟨b1,0,none⟩=some (.int .i64 c)/\w'.cell? ⟨a.k,1,none⟩=some (.int .u64 (S.ac:Int))) (go_keep)
    (first | (go_at_call 12;refine (CH.out _).mono ?_;rintro e w2 ⟨rfl,rfl⟩))
   go_wp2_with fail
   refine (CC.out _ ?_).mono ?_
   ·exact ⟨rfl,rfl,rfl,rfl⟩
   rintro e w3 ⟨rfl,h3⟩
   go_wp2
   go_ret2
   exact ⟨rfl,h3⟩
def KQ (h0:(b0,[.pointer (some ⟨a.k,0,none⟩)],23)∈A) (h1:(b1,[Value.int .i64 c],3)∈A) (h2:(b2,[Value.func (.func f) #[p] #[]],257)∈A) (hf:Ak f) (hmm:m<=m') (C:B7 B w0 a A f (#[p,.int .i64 c]) m m' S r):B7 B w0 a A 220 #[.pointer (some ⟨b0,0,none⟩),.pointer (some ⟨b1,0,none⟩),.pointer (some ⟨b2,0,none⟩)] m m' S (IU a.n S c r):=by
 intro A' w sub h
 have c0:w.cell? ⟨b0,0,none⟩=some (.pointer (some ⟨a.k,0,none⟩)):=(h.bx _ (sub _ h0)).cell 0
 have c1:w.cell? ⟨b1,0,none⟩=some (.int .i64 c):=(h.bx _ (sub _ h1)).cell 0
 have c2:w.cell? ⟨b2,0,none⟩=some (Value.func (.func f) #[p] #[]):=(h.bx _ (sub _ h2)).cell 0
 have k1:=h.c1
 have CI:Hid (∀ _:Unit,_):=λ_=>Gf h c
 have CH:Hid (∀ u,_):=λu=>As S.ac c u h.kb.2.2
 have CC:Hid (∀ v,Sm v w->_):=λv s=>C A' v sub (h.sm s)
 have FF:=hf
 unfold Ak at FF
 obtain ⟨r1,r2,T⟩:=r
 simp only at *
 clear C hf
 unfold IU
 cases q1:AJ a.n c
 ·simp only [AHn]
  rw [q1] at CI
  go_enter func220,ntmps220
  go_wp2_with fail
  refine (CI.out ()).mono ?_
  rintro e w1 ⟨rfl,rfl⟩
  go_wp2
  go_ret2
  exact ⟨rfl,h.more hmm⟩
 ·simp only [AE1,AHm]
  rw [q1] at CI
  cases q2:tb S.ac c
  ·simp only [AHn]
   rw [q2] at CH
   go_enter func220,ntmps220
   go_wp2_with fail
   refine (CI.out ()).mono ?_
   rintro e w1 ⟨rfl,rfl⟩
   go_wp2_with fail
   go_region_held3 (λw'=>w'.cell? ⟨b0,0,none⟩=some (.pointer (some ⟨a.k,0,none⟩))/\w'.cell? ⟨b1,0,none⟩=some (.int .i64 c)/\w'.cell? ⟨a.k,1,none⟩=some (.int .u64 (S.ac:Int))) (go_keep)
    (first | (go_at_call 12;refine (CH.out _).mono ?_;rintro e w2 ⟨rfl,rfl⟩))
   go_wp2
   go_ret2
   exact ⟨rfl,h.drew.more hmm⟩
  ·simp only [AE1,AHm]
   rw [q2] at CH
   go_enter func220,ntmps220
   go_wp2_with fail
   refine (CI.out ()).mono ?_
   rintro e w1 ⟨rfl,rfl⟩
   go_wp2_with fail
   go_region_held3 (λw'=>w'.cell? ⟨b0,0,none⟩=some (.pointer (some ⟨a.k,0,none⟩))/\w'.cell? ⟨b1,0,none⟩=some (.int .i64 c)/\w'.cell? ⟨a.k,1,none⟩=some (.int .u64 (S.ac:Int))) (go_keep)
    (first | (go_at_call 12;refine (CH.out _).mono ?_;rintro e w2 ⟨rfl,rfl⟩))
   go_wp2_with fail
   refine (CC.out _ ?_).mono ?_
   ·exact ⟨rfl,rfl,rfl,rfl⟩
   rintro e w3 ⟨rfl,h3⟩
   go_wp2
   go_ret2
   exact ⟨rfl,h3⟩
end
section
variable {B:Nat} {w0:World} {A:List (Nat×List Value×TypeId)} {a:KA} {m m':Nat} {S S':KS} {w w':World}
def AI (e:Ev):Prop:=wf e.kind/\wf e.cpu/\wf e.id/\wf e.n/\e.mask<18446744073709551616
def Nt (ok:AI e) (_hm:m+64<=1000000) (hk:(bk,[Value.pointer (some ⟨a.k,0,none⟩)],23)∈A) (he:(be,[Value.int .i64 e.kind,.int .i64 e.cpu,.int .i64 e.id,.int .u64 (e.mask:Int),.int .i64 e.n],34)∈A) (hw:(bw,[Value.int .u64 (e.mask:Int)],29)∈A):B7 B w0 a A 80 #[.pointer (some ⟨bk,0,none⟩),.pointer (some ⟨be,0,none⟩),.pointer (some ⟨bw,0,none⟩)] m (m+64) S (spawn a.n S e.id e.mask):=by
 obtain ⟨o0,o1,o2,o3,o4⟩:=ok
 intro A' w sub h
 have h1:=h
 have ck0:w.cell? ⟨bk,0,none⟩=some (.pointer (some ⟨a.k,0,none⟩)):=(h1.bx _ (sub _ hk)).cell 0
 obtain ⟨ce0,ce1,ce2,ce3,ce4⟩:=Aq (b:=be) (h1.bx _ (sub _ he))
 have cw0:w.cell? ⟨bw,0,none⟩=some (.int .u64 (e.mask:Int)):=(h1.bx _ (sub _ hw)).cell 0
 have CC:Hid (∀ v,Sm v w->_):=λv s=>rM (h1.sm s) e.id e.mask o4 (by omega)
 generalize spawn a.n S e.id e.mask=r at *
 obtain ⟨r1,r2,T⟩:=r
 simp only at *
 go_enter func80,ntmps80
 go_wp2_with fail
 refine (CC.out _ ?_).mono ?_
 ·exact ⟨rfl,rfl,rfl,rfl⟩
 rintro e w3 ⟨rfl,h3⟩
 go_wp2
 go_ret2
 exact ⟨rfl,(h3).more (by omega)⟩
def Nu (ok:AI e) (_hm:m+64<=1000000) (hk:(bk,[Value.pointer (some ⟨a.k,0,none⟩)],23)∈A) (he:(be,[Value.int .i64 e.kind,.int .i64 e.cpu,.int .i64 e.id,.int .u64 (e.mask:Int),.int .i64 e.n],34)∈A):Oz B w0 a A 83 #[.pointer (some ⟨bk,0,none⟩),.pointer (some ⟨be,0,none⟩)] m (m+64) S (λt=>no (exit a.n S e.id t)):=by
 obtain ⟨o0,o1,o2,o3,o4⟩:=ok
 intro t A' w okt sub h
 obtain ⟨u1,u2,u3,u4,u5⟩:=okt
 simp only [ADx,ADo,ADv]
 have h1:=h.new [.int .i64 t.prio,.int .u64 (t.mask:Int),.int .i64 t.cpu,.bool t.forced,.bool t.sleeps,.int .i64 t.timer] 138
 have ck0:(w.alloc (.cells #[.int .i64 t.prio,.int .u64 (t.mask:Int),.int .i64 t.cpu,.bool t.forced,.bool t.sleeps,.int .i64 t.timer] 138)).cell? ⟨bk,0,none⟩=some (.pointer (some ⟨a.k,0,none⟩)):=(h1.bx _ (ADV _ (sub _ hk))).cell 0
 obtain ⟨ce0,ce1,ce2,ce3,ce4⟩:=Aq (b:=be) (h1.bx _ (ADV _ (sub _ he)))
 have CC:Hid (∀ v,Sm v (w.alloc (.cells #[.int .i64 t.prio,.int .u64 (t.mask:Int),.int .i64 t.cpu,.bool t.forced,.bool t.sleeps,.int .i64 t.timer] 138))->_):=λv s=>yV (h1.sm s) e.id t o2 (K3 (by omega) (by omega))
 simp only [no]
 generalize exit a.n S e.id t=r at *
 obtain ⟨r1,T⟩:=r
 simp only at *
 go_enter func83,ntmps83
 go_wp2_with fail
 refine (CC.out _ ?_).mono ?_
 ·exact ⟨rfl,rfl,rfl,rfl⟩
 rintro e w3 ⟨rfl,h3⟩
 go_wp2
 go_ret2
 exact ⟨rfl,(h3.drop).more (by omega)⟩
def Nv (ok:AI e) (_hm:m+64<=1000000) (hk:(bk,[Value.pointer (some ⟨a.k,0,none⟩)],23)∈A) (he:(be,[Value.int .i64 e.kind,.int .i64 e.cpu,.int .i64 e.id,.int .u64 (e.mask:Int),.int .i64 e.n],34)∈A):Oz B w0 a A 85 #[.pointer (some ⟨bk,0,none⟩),.pointer (some ⟨be,0,none⟩)] m (m+64) S (λt=>no (yield a.n S e.id t)):=by
 obtain ⟨o0,o1,o2,o3,o4⟩:=ok
 intro t A' w okt sub h
 obtain ⟨u1,u2,u3,u4,u5⟩:=okt
 simp only [ADx,ADo,ADv]
 have h1:=h.new [.int .i64 t.prio,.int .u64 (t.mask:Int),.int .i64 t.cpu,.bool t.forced,.bool t.sleeps,.int .i64 t.timer] 138
 have ck0:(w.alloc (.cells #[.int .i64 t.prio,.int .u64 (t.mask:Int),.int .i64 t.cpu,.bool t.forced,.bool t.sleeps,.int .i64 t.timer] 138)).cell? ⟨bk,0,none⟩=some (.pointer (some ⟨a.k,0,none⟩)):=(h1.bx _ (ADV _ (sub _ hk))).cell 0
 obtain ⟨ce0,ce1,ce2,ce3,ce4⟩:=Aq (b:=be) (h1.bx _ (ADV _ (sub _ he)))
 have CC:Hid (∀ v,Sm v (w.alloc (.cells #[.int .i64 t.prio,.int .u64 (t.mask:Int),.int .i64 t.cpu,.bool t.forced,.bool t.sleeps,.int .i64 t.timer] 138))->_):=λv s=>rN (h1.sm s) e.id t o2
 simp only [no]
 generalize yield a.n S e.id t=r at *
 obtain ⟨r1,T⟩:=r
 simp only at *
 go_enter func85,ntmps85
 go_wp2_with fail
 refine (CC.out _ ?_).mono ?_
 ·exact ⟨rfl,rfl,rfl,rfl⟩
 rintro e w3 ⟨rfl,h3⟩
 go_wp2
 go_ret2
 exact ⟨rfl,(h3.drop).more (by omega)⟩
def Nw (ok:AI e) (_hm:m+64<=1000000) (hk:(bk,[Value.pointer (some ⟨a.k,0,none⟩)],23)∈A) (he:(be,[Value.int .i64 e.kind,.int .i64 e.cpu,.int .i64 e.id,.int .u64 (e.mask:Int),.int .i64 e.n],34)∈A):Oz B w0 a A 87 #[.pointer (some ⟨bk,0,none⟩),.pointer (some ⟨be,0,none⟩)] m (m+64) S (λt=>sleep a.n S e.id t e.n):=by
 obtain ⟨o0,o1,o2,o3,o4⟩:=ok
 intro t A' w okt sub h
 obtain ⟨u1,u2,u3,u4,u5⟩:=okt
 simp only [ADx,ADo,ADv]
 have h1:=h.new [.int .i64 t.prio,.int .u64 (t.mask:Int),.int .i64 t.cpu,.bool t.forced,.bool t.sleeps,.int .i64 t.timer] 138
 have ck0:(w.alloc (.cells #[.int .i64 t.prio,.int .u64 (t.mask:Int),.int .i64 t.cpu,.bool t.forced,.bool t.sleeps,.int .i64 t.timer] 138)).cell? ⟨bk,0,none⟩=some (.pointer (some ⟨a.k,0,none⟩)):=(h1.bx _ (ADV _ (sub _ hk))).cell 0
 obtain ⟨ce0,ce1,ce2,ce3,ce4⟩:=Aq (b:=be) (h1.bx _ (ADV _ (sub _ he)))
 have CC:Hid (∀ v,Sm v (w.alloc (.cells #[.int .i64 t.prio,.int .u64 (t.mask:Int),.int .i64 t.cpu,.bool t.forced,.bool t.sleeps,.int .i64 t.timer] 138))->_):=λv s=>rP (h1.sm s) e.id t e.n o2
 generalize sleep a.n S e.id t e.n=r at *
 obtain ⟨r1,r2,T⟩:=r
 simp only at *
 go_enter func87,ntmps87
 go_wp2_with fail
 refine (CC.out _ ?_).mono ?_
 ·exact ⟨rfl,rfl,rfl,rfl⟩
 rintro e w3 ⟨rfl,h3⟩
 go_wp2
 go_ret2
 exact ⟨rfl,(h3.drop).more (by omega)⟩
def Nx (ok:AI e) (_hm:m+64<=1000000) (hk:(bk,[Value.pointer (some ⟨a.k,0,none⟩)],23)∈A) (he:(be,[Value.int .i64 e.kind,.int .i64 e.cpu,.int .i64 e.id,.int .u64 (e.mask:Int),.int .i64 e.n],34)∈A):Oz B w0 a A 89 #[.pointer (some ⟨bk,0,none⟩),.pointer (some ⟨be,0,none⟩)] m (m+64) S (λt=>no (G8 a.n S e.id t)):=by
 obtain ⟨o0,o1,o2,o3,o4⟩:=ok
 intro t A' w okt sub h
 obtain ⟨u1,u2,u3,u4,u5⟩:=okt
 simp only [ADx,ADo,ADv]
 have h1:=h.new [.int .i64 t.prio,.int .u64 (t.mask:Int),.int .i64 t.cpu,.bool t.forced,.bool t.sleeps,.int .i64 t.timer] 138
 have ck0:(w.alloc (.cells #[.int .i64 t.prio,.int .u64 (t.mask:Int),.int .i64 t.cpu,.bool t.forced,.bool t.sleeps,.int .i64 t.timer] 138)).cell? ⟨bk,0,none⟩=some (.pointer (some ⟨a.k,0,none⟩)):=(h1.bx _ (ADV _ (sub _ hk))).cell 0
 obtain ⟨ce0,ce1,ce2,ce3,ce4⟩:=Aq (b:=be) (h1.bx _ (ADV _ (sub _ he)))
 have CC:Hid (∀ v,Sm v (w.alloc (.cells #[.int .i64 t.prio,.int .u64 (t.mask:Int),.int .i64 t.cpu,.bool t.forced,.bool t.sleeps,.int .i64 t.timer] 138))->_):=λv s=>rO (h1.sm s) e.id t o2 (K3 (by omega) (by omega)) (by omega) (by omega)
 simp only [no]
 generalize G8 a.n S e.id t=r at *
 obtain ⟨r1,T⟩:=r
 simp only at *
 go_enter func89,ntmps89
 go_wp2_with fail
 refine (CC.out _ ?_).mono ?_
 ·exact ⟨rfl,rfl,rfl,rfl⟩
 rintro e w3 ⟨rfl,h3⟩
 go_wp2
 go_ret2
 exact ⟨rfl,(h3.drop).more (by omega)⟩
def Ny (ok:AI e) (_hm:m+64<=1000000) (hk:(bk,[Value.pointer (some ⟨a.k,0,none⟩)],23)∈A) (he:(be,[Value.int .i64 e.kind,.int .i64 e.cpu,.int .i64 e.id,.int .u64 (e.mask:Int),.int .i64 e.n],34)∈A) (hw:(bw,[Value.int .u64 (e.mask:Int)],29)∈A):DO B w0 a A 92 #[.pointer (some ⟨bk,0,none⟩),.pointer (some ⟨be,0,none⟩),.pointer (some ⟨bw,0,none⟩)] m (m+64) S (QI a.n S e.id e.mask):=by
 obtain ⟨o0,o1,o2,o3,o4⟩:=ok
 intro A' w sub h
 have h1:=h
 have ck0:w.cell? ⟨bk,0,none⟩=some (.pointer (some ⟨a.k,0,none⟩)):=(h1.bx _ (sub _ hk)).cell 0
 obtain ⟨ce0,ce1,ce2,ce3,ce4⟩:=Aq (b:=be) (h1.bx _ (sub _ he))
 have cw0:w.cell? ⟨bw,0,none⟩=some (.int .u64 (e.mask:Int)):=(h1.bx _ (sub _ hw)).cell 0
 have CC:Hid (∀ v,Sm v w->_):=λv s=>ACH (h1.sm s) e.id e.mask o2 o4 (by omega)
 generalize QI a.n S e.id e.mask=r at *
 obtain ⟨r1,T⟩:=r
 simp only at *
 go_enter func92,ntmps92
 go_wp2_with fail
 refine (CC.out _ ?_).mono ?_
 ·exact ⟨rfl,rfl,rfl,rfl⟩
 rintro e w3 ⟨rfl,h3⟩
 go_wp2
 go_ret
 exact ⟨rfl,(h3).more (by omega)⟩
def Nz {_bk:Nat} (ok:AI e) (_hm:m+64<=1000000):Oz B w0 a A 94 #[] m (m+64) S (λt=>(t.cpu,0,S)):=by
 obtain ⟨o0,o1,o2,o3,o4⟩:=ok
 intro t A' w okt sub h
 obtain ⟨u1,u2,u3,u4,u5⟩:=okt
 simp only [ADx,ADo,ADv]
 have h1:=h.new [.int .i64 t.prio,.int .u64 (t.mask:Int),.int .i64 t.cpu,.bool t.forced,.bool t.sleeps,.int .i64 t.timer] 138
 go_enter func94,ntmps94
 go_wp2
 go_ret2
 exact ⟨rfl,(h1.drop).more (by omega)⟩
def N0 (ok:AI e) (_hm:m+64<=1000000) (hk:(bk,[Value.pointer (some ⟨a.k,0,none⟩)],23)∈A) (he:(be,[Value.int .i64 e.kind,.int .i64 e.cpu,.int .i64 e.id,.int .u64 (e.mask:Int),.int .i64 e.n],34)∈A):DO B w0 a A 154 #[.pointer (some ⟨bk,0,none⟩),.pointer (some ⟨be,0,none⟩)] m (m+64) S (tick S e.n):=by
 obtain ⟨o0,o1,o2,o3,o4⟩:=ok
 intro A' w sub h
 have h1:=h
 have ck0:w.cell? ⟨bk,0,none⟩=some (.pointer (some ⟨a.k,0,none⟩)):=(h1.bx _ (sub _ hk)).cell 0
 obtain ⟨ce0,ce1,ce2,ce3,ce4⟩:=Aq (b:=be) (h1.bx _ (sub _ he))
 have CC:Hid (∀ v,Sm v w->_):=λv s=>zH (h1.sm s) e.n (by omega)
 generalize tick S e.n=r at *
 obtain ⟨r1,T⟩:=r
 simp only at *
 go_enter func154,ntmps154
 go_wp2_with fail
 refine (CC.out _ ?_).mono ?_
 ·exact ⟨rfl,rfl,rfl,rfl⟩
 rintro e w3 ⟨rfl,h3⟩
 go_wp2
 go_ret
 exact ⟨rfl,(h3).more (by omega)⟩
def N5 (c:Int) (ok:AI e) (_hm:m+64<=1000000) (hk:(bk,[Value.pointer (some ⟨a.k,0,none⟩)],23)∈A) (he:(be,[Value.int .i64 e.kind,.int .i64 e.cpu,.int .i64 e.id,.int .u64 (e.mask:Int),.int .i64 e.n],34)∈A):B7 B w0 a A 157 (#[.int .i64 c]++#[.pointer (some ⟨bk,0,none⟩),.pointer (some ⟨be,0,none⟩)]) m (m+64) S (arm a.n S c e.n):=by
 obtain ⟨o0,o1,o2,o3,o4⟩:=ok
 intro A' w sub h
 have h1:=h
 simp only [ADx,ADo,ADv]
 have ck0:w.cell? ⟨bk,0,none⟩=some (.pointer (some ⟨a.k,0,none⟩)):=(h1.bx _ (sub _ hk)).cell 0
 obtain ⟨ce0,ce1,ce2,ce3,ce4⟩:=Aq (b:=be) (h1.bx _ (sub _ he))
 have CC:Hid (∀ v,Sm v w->_):=λv s=>lP (h1.sm s) c e.n
 generalize arm a.n S c e.n=r at *
 obtain ⟨r1,r2,T⟩:=r
 simp only at *
 go_enter func157,ntmps157
 go_wp2_with fail
 refine (CC.out _ ?_).mono ?_
 ·exact ⟨rfl,rfl,rfl,rfl⟩
 rintro e w3 ⟨rfl,h3⟩
 go_wp2
 go_ret2
 exact ⟨rfl,(h3).more (by omega)⟩
def N7 (ok:AI e) (_hm:m+64<=1000000) (hk:(bk,[Value.pointer (some ⟨a.k,0,none⟩)],23)∈A) (he:(be,[Value.int .i64 e.kind,.int .i64 e.cpu,.int .i64 e.id,.int .u64 (e.mask:Int),.int .i64 e.n],34)∈A):DO B w0 a A 158 #[.pointer (some ⟨bk,0,none⟩),.pointer (some ⟨be,0,none⟩)] m (m+64) S (cancel a.n S e.id):=by
 obtain ⟨o0,o1,o2,o3,o4⟩:=ok
 intro A' w sub h
 have h1:=h
 have ck0:w.cell? ⟨bk,0,none⟩=some (.pointer (some ⟨a.k,0,none⟩)):=(h1.bx _ (sub _ hk)).cell 0
 obtain ⟨ce0,ce1,ce2,ce3,ce4⟩:=Aq (b:=be) (h1.bx _ (sub _ he))
 have CC:Hid (∀ v,Sm v w->_):=λv s=>iE (h1.sm s) e.id o2
 generalize cancel a.n S e.id=r at *
 obtain ⟨r1,T⟩:=r
 simp only at *
 go_enter func158,ntmps158
 go_wp2_with fail
 refine (CC.out _ ?_).mono ?_
 ·exact ⟨rfl,rfl,rfl,rfl⟩
 rintro e w3 ⟨rfl,h3⟩
 go_wp2
 go_ret
 exact ⟨rfl,(h3).more (by omega)⟩
def N8 (ok:AI e) (_hm:m+64<=1000000) (hk:(bk,[Value.pointer (some ⟨a.k,0,none⟩)],23)∈A) (he:(be,[Value.int .i64 e.kind,.int .i64 e.cpu,.int .i64 e.id,.int .u64 (e.mask:Int),.int .i64 e.n],34)∈A) (hw:(bw,[Value.int .u64 (e.mask:Int)],29)∈A):DO B w0 a A 160 #[.pointer (some ⟨bk,0,none⟩),.pointer (some ⟨be,0,none⟩),.pointer (some ⟨bw,0,none⟩)] m (m+64) S (request a.n S e.id e.mask):=by
 obtain ⟨o0,o1,o2,o3,o4⟩:=ok
 intro A' w sub h
 have h1:=h
 have ck0:w.cell? ⟨bk,0,none⟩=some (.pointer (some ⟨a.k,0,none⟩)):=(h1.bx _ (sub _ hk)).cell 0
 obtain ⟨ce0,ce1,ce2,ce3,ce4⟩:=Aq (b:=be) (h1.bx _ (sub _ he))
 have cw0:w.cell? ⟨bw,0,none⟩=some (.int .u64 (e.mask:Int)):=(h1.bx _ (sub _ hw)).cell 0
 have CC:Hid (∀ v,Sm v w->_):=λv s=>bL (h1.sm s) e.id e.mask o4
 generalize request a.n S e.id e.mask=r at *
 obtain ⟨r1,T⟩:=r
 simp only at *
 go_enter func160,ntmps160
 go_wp2_with fail
 refine (CC.out _ ?_).mono ?_
 ·exact ⟨rfl,rfl,rfl,rfl⟩
 rintro e w3 ⟨rfl,h3⟩
 go_wp2
 go_ret
 exact ⟨rfl,(h3).more (by omega)⟩
def N9 (ok:AI e) (_hm:m+64<=1000000) (hk:(bk,[Value.pointer (some ⟨a.k,0,none⟩)],23)∈A) (he:(be,[Value.int .i64 e.kind,.int .i64 e.cpu,.int .i64 e.id,.int .u64 (e.mask:Int),.int .i64 e.n],34)∈A):DO B w0 a A 162 #[.pointer (some ⟨bk,0,none⟩),.pointer (some ⟨be,0,none⟩)] m (m+64) S (free S e.id):=by
 obtain ⟨o0,o1,o2,o3,o4⟩:=ok
 intro A' w sub h
 have h1:=h
 have ck0:w.cell? ⟨bk,0,none⟩=some (.pointer (some ⟨a.k,0,none⟩)):=(h1.bx _ (sub _ hk)).cell 0
 obtain ⟨ce0,ce1,ce2,ce3,ce4⟩:=Aq (b:=be) (h1.bx _ (sub _ he))
 have CC:Hid (∀ v,Sm v w->_):=λv s=>yW (h1.sm s) e.id
 generalize free S e.id=r at *
 obtain ⟨r1,T⟩:=r
 simp only at *
 go_enter func162,ntmps162
 go_wp2_with fail
 refine (CC.out _ ?_).mono ?_
 ·exact ⟨rfl,rfl,rfl,rfl⟩
 rintro e w3 ⟨rfl,h3⟩
 go_wp2
 go_ret
 exact ⟨rfl,(h3).more (by omega)⟩
def OA (ok:AI e) (_hm:m+64<=1000000) (hk:(bk,[Value.pointer (some ⟨a.k,0,none⟩)],23)∈A) (he:(be,[Value.int .i64 e.kind,.int .i64 e.cpu,.int .i64 e.id,.int .u64 (e.mask:Int),.int .i64 e.n],34)∈A) (hw:(bw,[Value.int .u64 (e.mask:Int)],29)∈A):DO B w0 a A 164 #[.pointer (some ⟨bk,0,none⟩),.pointer (some ⟨be,0,none⟩),.pointer (some ⟨bw,0,none⟩)] m (m+64) S (FD a.n S e.id e.mask):=by
 obtain ⟨o0,o1,o2,o3,o4⟩:=ok
 intro A' w sub h
 have h1:=h
 have ck0:w.cell? ⟨bk,0,none⟩=some (.pointer (some ⟨a.k,0,none⟩)):=(h1.bx _ (sub _ hk)).cell 0
 obtain ⟨ce0,ce1,ce2,ce3,ce4⟩:=Aq (b:=be) (h1.bx _ (sub _ he))
 have cw0:w.cell? ⟨bw,0,none⟩=some (.int .u64 (e.mask:Int)):=(h1.bx _ (sub _ hw)).cell 0
 have CC:Hid (∀ v,Sm v w->_):=λv s=>iF (h1.sm s) e.id e.mask o4
 generalize FD a.n S e.id e.mask=r at *
 obtain ⟨r1,T⟩:=r
 simp only at *
 go_enter func164,ntmps164
 go_wp2_with fail
 refine (CC.out _ ?_).mono ?_
 ·exact ⟨rfl,rfl,rfl,rfl⟩
 rintro e w3 ⟨rfl,h3⟩
 go_wp2
 go_ret
 exact ⟨rfl,(h3).more (by omega)⟩
def OB (ok:AI e) (_hm:m+64<=1000000) (hk:(bk,[Value.pointer (some ⟨a.k,0,none⟩)],23)∈A) (he:(be,[Value.int .i64 e.kind,.int .i64 e.cpu,.int .i64 e.id,.int .u64 (e.mask:Int),.int .i64 e.n],34)∈A):DO B w0 a A 166 #[.pointer (some ⟨bk,0,none⟩),.pointer (some ⟨be,0,none⟩)] m (m+64) S (J7 S e.id true):=by
 obtain ⟨o0,o1,o2,o3,o4⟩:=ok
 intro A' w sub h
 have h1:=h
 have ck0:w.cell? ⟨bk,0,none⟩=some (.pointer (some ⟨a.k,0,none⟩)):=(h1.bx _ (sub _ hk)).cell 0
 obtain ⟨ce0,ce1,ce2,ce3,ce4⟩:=Aq (b:=be) (h1.bx _ (sub _ he))
 have k6:=h1.c6
 have CC:Hid (∀ v,Sm v w->_):=λv s=>qO (h1.sm s) e.id
 go_enter func166,ntmps166
 go_wp2_with fail
 go_region_held3 (λw'=>w'.cell? ⟨bk,0,none⟩=some (.pointer (some ⟨a.k,0,none⟩))/\w'.cell? ⟨be,2,none⟩=some (.int .i64 e.id)/\w'.cell? ⟨a.k,6,none⟩=some (.pointer (some ⟨a.iq,0,none⟩))) (go_keep)
  (first | (go_at_call 167;refine (CC.out _ ?_).mono ?_;(exact ⟨rfl,rfl,rfl,rfl⟩);rintro e w3 ⟨rfl,h3⟩;have d0:w3.cell? ⟨bk,0,none⟩=some (.pointer (some ⟨a.k,0,none⟩)):=(h3.bx _ (sub _ hk)).cell 0;have d1:w3.cell? ⟨be,2,none⟩=some (.int .i64 e.id):=(h3.bx _ (sub _ he)).cell 2;have d2:w3.cell? ⟨a.k,6,none⟩=some (.pointer (some ⟨a.iq,0,none⟩)):=h3.c6))
 go_wp2
 go_ret
 exact ⟨rfl,(h3).more (by omega)⟩
def OD (ok:AI e) (_hm:m+64<=1000000) (hk:(bk,[Value.pointer (some ⟨a.k,0,none⟩)],23)∈A) (he:(be,[Value.int .i64 e.kind,.int .i64 e.cpu,.int .i64 e.id,.int .u64 (e.mask:Int),.int .i64 e.n],34)∈A):DO B w0 a A 168 #[.pointer (some ⟨bk,0,none⟩),.pointer (some ⟨be,0,none⟩)] m (m+64) S (J7 S e.id false):=by
 obtain ⟨o0,o1,o2,o3,o4⟩:=ok
 intro A' w sub h
 have h1:=h
 have ck0:w.cell? ⟨bk,0,none⟩=some (.pointer (some ⟨a.k,0,none⟩)):=(h1.bx _ (sub _ hk)).cell 0
 obtain ⟨ce0,ce1,ce2,ce3,ce4⟩:=Aq (b:=be) (h1.bx _ (sub _ he))
 have k6:=h1.c6
 have CC:Hid (∀ v,Sm v w->_):=λv s=>bB (h1.sm s) e.id
 go_enter func168,ntmps168
 go_wp2_with fail
 go_region_held3 (λw'=>w'.cell? ⟨bk,0,none⟩=some (.pointer (some ⟨a.k,0,none⟩))/\w'.cell? ⟨be,2,none⟩=some (.int .i64 e.id)/\w'.cell? ⟨a.k,6,none⟩=some (.pointer (some ⟨a.iq,0,none⟩))) (go_keep)
  (first | (go_at_call 169;refine (CC.out _ ?_).mono ?_;(exact ⟨rfl,rfl,rfl,rfl⟩);rintro e w3 ⟨rfl,h3⟩;have d0:w3.cell? ⟨bk,0,none⟩=some (.pointer (some ⟨a.k,0,none⟩)):=(h3.bx _ (sub _ hk)).cell 0;have d1:w3.cell? ⟨be,2,none⟩=some (.int .i64 e.id):=(h3.bx _ (sub _ he)).cell 2;have d2:w3.cell? ⟨a.k,6,none⟩=some (.pointer (some ⟨a.iq,0,none⟩)):=h3.c6))
 go_wp2
 go_ret
 exact ⟨rfl,(h3).more (by omega)⟩
def OE (ok:AI e) (_hm:m+64<=1000000) (hk:(bk,[Value.pointer (some ⟨a.k,0,none⟩)],23)∈A) (he:(be,[Value.int .i64 e.kind,.int .i64 e.cpu,.int .i64 e.id,.int .u64 (e.mask:Int),.int .i64 e.n],34)∈A):DO B w0 a A 170 #[.pointer (some ⟨bk,0,none⟩),.pointer (some ⟨be,0,none⟩)] m (m+64) S (raise S e.id):=by
 obtain ⟨o0,o1,o2,o3,o4⟩:=ok
 intro A' w sub h
 have h1:=h
 have ck0:w.cell? ⟨bk,0,none⟩=some (.pointer (some ⟨a.k,0,none⟩)):=(h1.bx _ (sub _ hk)).cell 0
 obtain ⟨ce0,ce1,ce2,ce3,ce4⟩:=Aq (b:=be) (h1.bx _ (sub _ he))
 have k6:=h1.c6
 have CC:Hid (∀ v,Sm v w->_):=λv s=>gT (h1.sm s) e.id
 go_enter func170,ntmps170
 go_wp2_with fail
 go_region_held3 (λw'=>w'.cell? ⟨bk,0,none⟩=some (.pointer (some ⟨a.k,0,none⟩))/\w'.cell? ⟨be,2,none⟩=some (.int .i64 e.id)/\w'.cell? ⟨a.k,6,none⟩=some (.pointer (some ⟨a.iq,0,none⟩))) (go_keep)
  (first | (go_at_call 171;refine (CC.out _ ?_).mono ?_;(exact ⟨rfl,rfl,rfl,rfl⟩);rintro e w3 ⟨rfl,h3⟩;have d0:w3.cell? ⟨bk,0,none⟩=some (.pointer (some ⟨a.k,0,none⟩)):=(h3.bx _ (sub _ hk)).cell 0;have d1:w3.cell? ⟨be,2,none⟩=some (.int .i64 e.id):=(h3.bx _ (sub _ he)).cell 2;have d2:w3.cell? ⟨a.k,6,none⟩=some (.pointer (some ⟨a.iq,0,none⟩)):=h3.c6))
 go_wp2
 go_ret
 exact ⟨rfl,(h3).more (by omega)⟩
def O0 (ok:AI e) (_hm:m+64<=1000000) (hk:(bk,[Value.pointer (some ⟨a.k,0,none⟩)],23)∈A):B7 B w0 a A 228 #[.pointer (some ⟨bk,0,none⟩)] m (m+64) S (queue a.n S (-1)):=by
 obtain ⟨o0,o1,o2,o3,o4⟩:=ok
 intro A' w sub h
 have h1:=h
 have ck0:w.cell? ⟨bk,0,none⟩=some (.pointer (some ⟨a.k,0,none⟩)):=(h1.bx _ (sub _ hk)).cell 0
 have k8:=h1.c8
 have CC:Hid (∀ v,Sm v w->_):=λv s=>Sw (h1.sm s) (-1)
 go_enter func228,ntmps228
 go_wp2_with fail
 refine (CC.out _ ?_).mono ?_
 ·exact ⟨rfl,rfl,rfl,rfl⟩
 rintro e w3 ⟨rfl,h3⟩
 go_wp2
 go_ret2
 exact ⟨rfl,(h3).more (by omega)⟩
def O1 (ok:AI e) (_hm:m+64<=1000000) (hk:(bk,[Value.pointer (some ⟨a.k,0,none⟩)],23)∈A) (he:(be,[Value.int .i64 e.kind,.int .i64 e.cpu,.int .i64 e.id,.int .u64 (e.mask:Int),.int .i64 e.n],34)∈A):B7 B w0 a A 230 #[.pointer (some ⟨bk,0,none⟩),.pointer (some ⟨be,0,none⟩)] m (m+64) S (((flush S e.id).1,(flush S e.id).2,S)):=by
 obtain ⟨o0,o1,o2,o3,o4⟩:=ok
 intro A' w sub h
 have h1:=h
 have ck0:w.cell? ⟨bk,0,none⟩=some (.pointer (some ⟨a.k,0,none⟩)):=(h1.bx _ (sub _ hk)).cell 0
 obtain ⟨ce0,ce1,ce2,ce3,ce4⟩:=Aq (b:=be) (h1.bx _ (sub _ he))
 have CC:Hid (∀ v,Sm v w->_):=λv s=>rQ (h1.sm s) e.id o2
 go_enter func230,ntmps230
 go_wp2_with fail
 refine (CC.out _ ?_).mono ?_
 ·exact ⟨rfl,rfl,rfl,rfl⟩
 rintro e w3 ⟨rfl,h3⟩
 go_wp2
 go_ret2
 exact ⟨rfl,(h3).more (by omega)⟩
def O3 (c:Int) (ok:AI e) (_hm:m+64<=1000000) (hk:(bk,[Value.pointer (some ⟨a.k,0,none⟩)],23)∈A) (he:(be,[Value.int .i64 e.kind,.int .i64 e.cpu,.int .i64 e.id,.int .u64 (e.mask:Int),.int .i64 e.n],34)∈A):B7 B w0 a A 234 (#[.int .i64 c]++#[.pointer (some ⟨bk,0,none⟩),.pointer (some ⟨be,0,none⟩)]) m (m+64) S (no (gN a.n S c e.id)):=by
 obtain ⟨o0,o1,o2,o3,o4⟩:=ok
 intro A' w sub h
 have h1:=h
 simp only [ADx,ADo,ADv]
 have ck0:w.cell? ⟨bk,0,none⟩=some (.pointer (some ⟨a.k,0,none⟩)):=(h1.bx _ (sub _ hk)).cell 0
 obtain ⟨ce0,ce1,ce2,ce3,ce4⟩:=Aq (b:=be) (h1.bx _ (sub _ he))
 have k10:=h1.Np
 have CC:Hid (∀ v,Sm v w->_):=λv s=>qX (h1.sm s) c e.id
 simp only [no]
 go_enter func234,ntmps234
 go_wp2_with fail
 go_region_held3 (λw'=>w'.cell? ⟨bk,0,none⟩=some (.pointer (some ⟨a.k,0,none⟩))/\w'.cell? ⟨be,2,none⟩=some (.int .i64 e.id)/\w'.cell? ⟨a.k,10,none⟩=some (.pointer (some ⟨a.ob,0,none⟩))) (go_keep)
  (first | (go_at_call 235;refine (CC.out _ ?_).mono ?_;(exact ⟨rfl,rfl,rfl,rfl⟩);rintro e w3 ⟨rfl,h3⟩;have d0:w3.cell? ⟨bk,0,none⟩=some (.pointer (some ⟨a.k,0,none⟩)):=(h3.bx _ (sub _ hk)).cell 0;have d1:w3.cell? ⟨be,2,none⟩=some (.int .i64 e.id):=(h3.bx _ (sub _ he)).cell 2;have d2:w3.cell? ⟨a.k,10,none⟩=some (.pointer (some ⟨a.ob,0,none⟩)):=h3.Np))
 go_wp2
 go_ret2
 exact ⟨rfl,(h3).more (by omega)⟩
def JU (ok:AI e) (_hm:m+64<=1000000) (hk:(bk,[Value.pointer (some ⟨a.k,0,none⟩)],23)∈A) (he:(be,[Value.int .i64 e.kind,.int .i64 e.cpu,.int .i64 e.id,.int .u64 (e.mask:Int),.int .i64 e.n],34)∈A):DO B w0 a A 288 #[.pointer (some ⟨bk,0,none⟩),.pointer (some ⟨be,0,none⟩)] m (m+64) S (Ck a.n S (e.kind==23) e.cpu):=by
 obtain ⟨o0,o1,o2,o3,o4⟩:=ok
 intro A' w sub h
 have h1:=h
 have ck0:w.cell? ⟨bk,0,none⟩=some (.pointer (some ⟨a.k,0,none⟩)):=(h1.bx _ (sub _ hk)).cell 0
 obtain ⟨ce0,ce1,ce2,ce3,ce4⟩:=Aq (b:=be) (h1.bx _ (sub _ he))
 have CC:Hid (∀ v,Sm v w->_):=λv s=>rR (h1.sm s) (e.kind==23) e.cpu
 generalize Ck a.n S (e.kind==23) e.cpu=r at *
 obtain ⟨r1,T⟩:=r
 simp only at *
 go_enter func288,ntmps288
 go_wp2_with fail
 refine (CC.out _ ?_).mono ?_
 ·exact ⟨rfl,rfl,rfl,rfl⟩
 rintro e w3 ⟨rfl,h3⟩
 go_wp2
 go_ret
 exact ⟨rfl,(h3).more (by omega)⟩
def QU (ok:AI e) (_hm:m+64<=1000000) (hk:(bk,[Value.pointer (some ⟨a.k,0,none⟩)],23)∈A) (he:(be,[Value.int .i64 e.kind,.int .i64 e.cpu,.int .i64 e.id,.int .u64 (e.mask:Int),.int .i64 e.n],34)∈A):DO B w0 a A 290 #[.pointer (some ⟨bk,0,none⟩),.pointer (some ⟨be,0,none⟩)] m (m+64) S (J8 S e.n):=by
 obtain ⟨o0,o1,o2,o3,o4⟩:=ok
 intro A' w sub h
 have h1:=h
 have ck0:w.cell? ⟨bk,0,none⟩=some (.pointer (some ⟨a.k,0,none⟩)):=(h1.bx _ (sub _ hk)).cell 0
 obtain ⟨ce0,ce1,ce2,ce3,ce4⟩:=Aq (b:=be) (h1.bx _ (sub _ he))
 have CC:Hid (∀ v,Sm v w->_):=λv s=>yX (h1.sm s) e.n o3 (by omega)
 generalize J8 S e.n=r at *
 obtain ⟨r1,T⟩:=r
 simp only at *
 go_enter func290,ntmps290
 go_wp2_with fail
 refine (CC.out _ ?_).mono ?_
 ·exact ⟨rfl,rfl,rfl,rfl⟩
 rintro e w3 ⟨rfl,h3⟩
 go_wp2
 go_ret
 exact ⟨rfl,(h3).more (by omega)⟩
def QV (c:Int) (ok:AI e) (_hm:m+64<=1000000) (hk:(bk,[Value.pointer (some ⟨a.k,0,none⟩)],23)∈A):B7 B w0 a A 292 (#[.int .i64 c]++#[.pointer (some ⟨bk,0,none⟩)]) m (m+64) S (no (enter S c)):=by
 obtain ⟨o0,o1,o2,o3,o4⟩:=ok
 intro A' w sub h
 have h1:=h
 simp only [ADx,ADo,ADv]
 have ck0:w.cell? ⟨bk,0,none⟩=some (.pointer (some ⟨a.k,0,none⟩)):=(h1.bx _ (sub _ hk)).cell 0
 have k13:=h1.Fe
 have CC:Hid (∀ v,Sm v w->_):=λv s=>gY (h1.sm s) c
 simp only [no]
 go_enter func292,ntmps292
 go_wp2_with fail
 refine (CC.out _ ?_).mono ?_
 ·exact ⟨rfl,rfl,rfl,rfl⟩
 rintro e w3 ⟨rfl,h3⟩
 go_wp2
 go_ret2
 exact ⟨rfl,(h3).more (by omega)⟩
def QW (ok:AI e) (_hm:m+64<=1000000) (hk:(bk,[Value.pointer (some ⟨a.k,0,none⟩)],23)∈A) (he:(be,[Value.int .i64 e.kind,.int .i64 e.cpu,.int .i64 e.id,.int .u64 (e.mask:Int),.int .i64 e.n],34)∈A):DO B w0 a A 294 #[.pointer (some ⟨bk,0,none⟩),.pointer (some ⟨be,0,none⟩)] m (m+64) S (left S e.cpu):=by
 obtain ⟨o0,o1,o2,o3,o4⟩:=ok
 intro A' w sub h
 have h1:=h
 have ck0:w.cell? ⟨bk,0,none⟩=some (.pointer (some ⟨a.k,0,none⟩)):=(h1.bx _ (sub _ hk)).cell 0
 obtain ⟨ce0,ce1,ce2,ce3,ce4⟩:=Aq (b:=be) (h1.bx _ (sub _ he))
 have k13:=h1.Fe
 have CC:Hid (∀ v,Sm v w->_):=λv s=>gZ (h1.sm s) e.cpu
 go_enter func294,ntmps294
 go_wp2_with fail
 go_region_held3 (λw'=>w'.cell? ⟨bk,0,none⟩=some (.pointer (some ⟨a.k,0,none⟩))/\w'.cell? ⟨be,1,none⟩=some (.int .i64 e.cpu)/\w'.cell? ⟨a.k,13,none⟩=some (.pointer (some ⟨a.gt,0,none⟩))) (go_keep)
  (first | (go_at_call 295;refine (CC.out _ ?_).mono ?_;(exact ⟨rfl,rfl,rfl,rfl⟩);rintro e w3 ⟨rfl,h3⟩;have d0:w3.cell? ⟨bk,0,none⟩=some (.pointer (some ⟨a.k,0,none⟩)):=(h3.bx _ (sub _ hk)).cell 0;have d1:w3.cell? ⟨be,1,none⟩=some (.int .i64 e.cpu):=(h3.bx _ (sub _ he)).cell 1;have d2:w3.cell? ⟨a.k,13,none⟩=some (.pointer (some ⟨a.gt,0,none⟩)):=h3.Fe))
 go_wp2
 go_ret
 exact ⟨rfl,(h3).more (by omega)⟩
def QX (ok:AI e) (_hm:m+64<=1000000) (hk:(bk,[Value.pointer (some ⟨a.k,0,none⟩)],23)∈A) (he:(be,[Value.int .i64 e.kind,.int .i64 e.cpu,.int .i64 e.id,.int .u64 (e.mask:Int),.int .i64 e.n],34)∈A):DO B w0 a A 296 #[.pointer (some ⟨bk,0,none⟩),.pointer (some ⟨be,0,none⟩)] m (m+64) S ((Ss e.n,S)):=by
 obtain ⟨o0,o1,o2,o3,o4⟩:=ok
 intro A' w sub h
 have h1:=h
 have ck0:w.cell? ⟨bk,0,none⟩=some (.pointer (some ⟨a.k,0,none⟩)):=(h1.bx _ (sub _ hk)).cell 0
 obtain ⟨ce0,ce1,ce2,ce3,ce4⟩:=Aq (b:=be) (h1.bx _ (sub _ he))
 have CC:Hid (∀ v,Sm v w->_):=λv s=>XN (h1.sm s) e.n
 generalize Ss e.n=r1 at *
 go_enter func296,ntmps296
 go_wp2_with fail
 refine (CC.out _ ?_).mono ?_
 ·exact ⟨rfl,rfl,rfl,rfl⟩
 rintro e w3 ⟨rfl,h3⟩
 go_wp2
 go_ret
 exact ⟨rfl,(h3).more (by omega)⟩
def QY (ok:AI e) (_hm:m+64<=1000000) (hk:(bk,[Value.pointer (some ⟨a.k,0,none⟩)],23)∈A) (he:(be,[Value.int .i64 e.kind,.int .i64 e.cpu,.int .i64 e.id,.int .u64 (e.mask:Int),.int .i64 e.n],34)∈A):DO B w0 a A 298 #[.pointer (some ⟨bk,0,none⟩),.pointer (some ⟨be,0,none⟩)] m (m+64) S ((KD e.id e.n,S)):=by
 obtain ⟨o0,o1,o2,o3,o4⟩:=ok
 intro A' w sub h
 have h1:=h
 have ck0:w.cell? ⟨bk,0,none⟩=some (.pointer (some ⟨a.k,0,none⟩)):=(h1.bx _ (sub _ hk)).cell 0
 obtain ⟨ce0,ce1,ce2,ce3,ce4⟩:=Aq (b:=be) (h1.bx _ (sub _ he))
 have CC:Hid (∀ v,Sm v w->_):=λv s=>XO (h1.sm s) e.id e.n
 generalize KD e.id e.n=r1 at *
 go_enter func298,ntmps298
 go_wp2_with fail
 refine (CC.out _ ?_).mono ?_
 ·exact ⟨rfl,rfl,rfl,rfl⟩
 rintro e w3 ⟨rfl,h3⟩
 go_wp2
 go_ret
 exact ⟨rfl,(h3).more (by omega)⟩
def S8 {y:Int} (hb:(b,[Value.int .i64 y],24)∈A):DO B w0 a A 336 #[.pointer (some ⟨b,0,none⟩)] m m S (y,S):=by
 intro A' w sub h
 have c0:w.cell? ⟨b,0,none⟩=some (.int .i64 y):=(h.bx _ (sub _ hb)).cell 0
 go_enter func336,ntmps336
 go_wp2
 go_ret
 exact ⟨rfl,h⟩
end
section
variable {B:Nat} {w0:World} {A:List (Nat×List Value×TypeId)} {a:KA} {m m':Nat} {S S':KS} {w w':World}
def jD (w:World) (o:Obj):(w.alloc o).heap.size=w.heap.size+1:=by simp
def KX.at (h:KX B w0 A a m S w) (hz:w.heap.size=z) (cs:List Value) (ty:TypeId):KX B w0 ((z,cs,ty)::A) a m S (w.alloc (.cells cs.toArray ty)):=hz ▸ h.new cs ty
def B7.more {f:Nat} {args:Array Value} {r:Int×Int×KS} (C:B7 B w0 a A f args m m' S r) {m2:Nat} (hm:m'<=m2):B7 B w0 a A f args m m2 S r:=λA' w s h=>(C A' w s h).mono λ_ _ x=>⟨x.1,x.2.more hm⟩
def Aj (B:Nat) (w0:World) (a:KA) (A:List (Nat×List Value×TypeId)) (m m':Nat) (S:KS) (r:Int×Int×KS) (v:Value):Prop:=
 ∃ f fs cap,v=.func (.func f) fs cap/\Ak f/\((fs=#[]/\B7 B w0 a A f cap m m' S r)\/(cap=#[]/\∃ p,fs=#[p]/\B7 B w0 a A f #[p] m m' S r))
def AM (B:Nat) (w0:World) (a:KA) (A:List (Nat×List Value×TypeId)) (m m':Nat) (S:KS) (r:Int×Int×KS) (e:Ending) (w':World):Prop:=
 ∃ v X,e=.returned v/\KX B w0 (X++A) a m S w'/\Aj B w0 a (X++A) m m' S r v
def AM.mk {v:Value} {X:List (Nat×List Value×TypeId)} (h:KX B w0 (X++A) a m S w') (c:Aj B w0 a (X++A) m m' S r v):AM B w0 a A m m' S r (.returned v) w':=⟨v,X,rfl,h,c⟩
def Aj.mk (hf:Ak f) (C:B7 B w0 a A f cap m m' S r):Aj B w0 a A m m' S r (.func (.func f) #[] cap):=⟨f,#[],cap,rfl,hf,Or.inl ⟨rfl,C⟩⟩
def Aj.mb (hf:Ak f) (C:B7 B w0 a A f #[p] m m' S r):Aj B w0 a A m m' S r (.func (.func f) #[p] #[]):=⟨f,#[p],#[],rfl,hf,Or.inr ⟨rfl,p,rfl,C⟩⟩
def BM:Ak 147:=AS func147 (by decide) rfl
def rW:Ak 336:=AS func336 (by decide) rfl
def Ib:Ak 137:=AS func137 (by decide) rfl
def F5:Ak 220:=AS func220 (by decide) rfl
def AAf:Ak 95:=AS func95 (by decide) rfl
def rX:Ak 229:=AS func229 (by decide) rfl
def rY:Ak 232:=AS func232 (by decide) rfl
def rZ:Ak 233:=AS func233 (by decide) rfl
def AAg:Ak 80:=AS func80 (by decide) rfl
def AAh:Ak 83:=AS func83 (by decide) rfl
def AAi:Ak 85:=AS func85 (by decide) rfl
def AAj:Ak 87:=AS func87 (by decide) rfl
def AAk:Ak 89:=AS func89 (by decide) rfl
def AAl:Ak 92:=AS func92 (by decide) rfl
def AAm:Ak 94:=AS func94 (by decide) rfl
def sA:Ak 154:=AS func154 (by decide) rfl
def sB:Ak 157:=AS func157 (by decide) rfl
def sC:Ak 158:=AS func158 (by decide) rfl
def sD:Ak 160:=AS func160 (by decide) rfl
def sE:Ak 162:=AS func162 (by decide) rfl
def sF:Ak 164:=AS func164 (by decide) rfl
def sG:Ak 166:=AS func166 (by decide) rfl
def sH:Ak 168:=AS func168 (by decide) rfl
def sI:Ak 170:=AS func170 (by decide) rfl
def sJ:Ak 228:=AS func228 (by decide) rfl
def sK:Ak 230:=AS func230 (by decide) rfl
def sL:Ak 234:=AS func234 (by decide) rfl
def Vs:Ak 288:=AS func288 (by decide) rfl
def sM:Ak 290:=AS func290 (by decide) rfl
def sN:Ak 292:=AS func292 (by decide) rfl
def sO:Ak 294:=AS func294 (by decide) rfl
def sP:Ak 296:=AS func296 (by decide) rfl
def sQ:Ak 298:=AS func298 (by decide) rfl
def Lh (h:KX B w0 A a m S w) (y:Int):Calls prog 287 #[.int .i64 y] w λe w'=>AM B w0 a A m (m+64) S (0,y,S) e w':=by
 have h1:=h.new [.int .i64 y] 24
 have h2:=h1.at (w:=w.alloc (.cells #[.int .i64 y] 24)) (z:=w.heap.size+1) (jD _ _) [.func (.func 336) #[] #[.pointer (some ⟨w.heap.size,0,none⟩)]] 213
 have hmf:∀ (fn:Fn) (first cap:Array Value) (w:World),(Instr.makeFunc fn first cap).run prog w=.ok (.func fn first cap) w:=λ_ _ _ _=>rfl
 go_enter func287,ntmps287
 go_wp2_with fail
 refine (Ai _ _ _ _).mono ?_
 rintro e w1 ⟨rfl,rfl⟩
 go_wp2
 go_ret
 exact AM.mk (X:=[_,_]) h2 (Aj.mk BM ((Ad (m':=m) (r:=(y,S)) (b:=w.heap.size+1) (ADX ..) rW (S8 (ADV _ (ADX ..)))).more (by omega)))
end
section
variable {B:Nat} {w0:World} {A:List (Nat×List Value×TypeId)} {a:KA} {m m':Nat} {S S':KS} {w w':World}
def AM.sub {Y:List (Nat×List Value×TypeId)} {e:Ending} (h:AM B w0 a (Y++A) m m' S r e w'):AM B w0 a A m m' S r e w':=by
 obtain ⟨v,X,e,k,c⟩:=h
 rw [<- AEs] at k c
 exact ⟨v,X++Y,e,k,c⟩
def bS (h:KX B w0 A a m S w) (_ok:AI ⟨1,ec,ei,em,en⟩) (_hm:m+64<=1000000):Calls prog 236 #[.pointer (some ⟨a.k,0,none⟩),.agg #[.int .i64 1,.int .i64 ec,.int .i64 ei,.int .u64 (em:Int),.int .i64 en]] w λe w'=>AM B w0 a A m (m+64) S (A8 a.n S ⟨1,ec,ei,em,en⟩) e w':=by
 have h0:=h
 have h1:=h0.at (z:=w.heap.size) (by simp) [.pointer (some ⟨a.k,0,none⟩)] 23
 have h2:=h1.at (z:=w.heap.size+1) (by simp) [.int .i64 1,.int .i64 ec,.int .i64 ei,.int .u64 (em:Int),.int .i64 en] 34
 have hmf:∀ (fn:Fn) (first cap:Array Value) (w:World),(Instr.makeFunc fn first cap).run prog w=.ok (.func fn first cap) w:=λ_ _ _ _=>rfl
 go_enter func236,ntmps236
 go_wp2_with fail
 refine (Lh h2 3).mono ?_
 rintro e w1 hw1
 obtain ⟨v,X,rfl,k,c⟩:=hw1
 go_wp2
 go_ret
 exact AM.sub (Y:=[_,_]) (AM.mk k c)
def Xc (h:KX B w0 A a m S w) (ok:AI ⟨23,ec,ei,em,en⟩) (hm:m+64<=1000000):Calls prog 236 #[.pointer (some ⟨a.k,0,none⟩),.agg #[.int .i64 23,.int .i64 ec,.int .i64 ei,.int .u64 (em:Int),.int .i64 en]] w λe w'=>AM B w0 a A m (m+64) S (A8 a.n S ⟨23,ec,ei,em,en⟩) e w':=by
 have h0:=h
 have h1:=h0.at (z:=w.heap.size) (by simp) [.pointer (some ⟨a.k,0,none⟩)] 23
 have h2:=h1.at (z:=w.heap.size+1) (by simp) [.int .i64 23,.int .i64 ec,.int .i64 ei,.int .u64 (em:Int),.int .i64 en] 34
 have h3:=h2.at (z:=w.heap.size+2) (by simp) [.func (.func 288) #[] #[.pointer (some ⟨w.heap.size,0,none⟩),.pointer (some ⟨w.heap.size+1,0,none⟩)]] 213
 have hmf:∀ (fn:Fn) (first cap:Array Value) (w:World),(Instr.makeFunc fn first cap).run prog w=.ok (.func fn first cap) w:=λ_ _ _ _=>rfl
 go_enter func236,ntmps236
 go_wp2_with fail
 refine (Ai _ _ _ _).mono ?_
 rintro e w1 ⟨rfl,rfl⟩
 go_wp2
 go_ret
 exact AM.mk (X:=[_,_,_]) h3 (Aj.mk BM (Ad (b:=w.heap.size+2) (ADX ..) Vs (JU (e:=⟨23,ec,ei,em,en⟩) ok hm (ADV _ (ADV _ (ADX ..))) (ADV _ (ADX ..)))))
def Xd (h:KX B w0 A a m S w) (ok:AI ⟨24,ec,ei,em,en⟩) (hm:m+64<=1000000):Calls prog 236 #[.pointer (some ⟨a.k,0,none⟩),.agg #[.int .i64 24,.int .i64 ec,.int .i64 ei,.int .u64 (em:Int),.int .i64 en]] w λe w'=>AM B w0 a A m (m+64) S (A8 a.n S ⟨24,ec,ei,em,en⟩) e w':=by
 have h0:=h
 have h1:=h0.at (z:=w.heap.size) (by simp) [.pointer (some ⟨a.k,0,none⟩)] 23
 have h2:=h1.at (z:=w.heap.size+1) (by simp) [.int .i64 24,.int .i64 ec,.int .i64 ei,.int .u64 (em:Int),.int .i64 en] 34
 have h3:=h2.at (z:=w.heap.size+2) (by simp) [.func (.func 288) #[] #[.pointer (some ⟨w.heap.size,0,none⟩),.pointer (some ⟨w.heap.size+1,0,none⟩)]] 213
 have hmf:∀ (fn:Fn) (first cap:Array Value) (w:World),(Instr.makeFunc fn first cap).run prog w=.ok (.func fn first cap) w:=λ_ _ _ _=>rfl
 go_enter func236,ntmps236
 go_wp2_with fail
 refine (Ai _ _ _ _).mono ?_
 rintro e w1 ⟨rfl,rfl⟩
 go_wp2
 go_ret
 exact AM.mk (X:=[_,_,_]) h3 (Aj.mk BM (Ad (b:=w.heap.size+2) (ADX ..) Vs (JU (e:=⟨24,ec,ei,em,en⟩) ok hm (ADV _ (ADV _ (ADX ..))) (ADV _ (ADX ..)))))
def Xe (h:KX B w0 A a m S w) (ok:AI ⟨25,ec,ei,em,en⟩) (hm:m+64<=1000000):Calls prog 236 #[.pointer (some ⟨a.k,0,none⟩),.agg #[.int .i64 25,.int .i64 ec,.int .i64 ei,.int .u64 (em:Int),.int .i64 en]] w λe w'=>AM B w0 a A m (m+64) S (A8 a.n S ⟨25,ec,ei,em,en⟩) e w':=by
 have h0:=h
 have h1:=h0.at (z:=w.heap.size) (by simp) [.pointer (some ⟨a.k,0,none⟩)] 23
 have h2:=h1.at (z:=w.heap.size+1) (by simp) [.int .i64 25,.int .i64 ec,.int .i64 ei,.int .u64 (em:Int),.int .i64 en] 34
 have h3:=h2.at (z:=w.heap.size+2) (by simp) [.func (.func 290) #[] #[.pointer (some ⟨w.heap.size,0,none⟩),.pointer (some ⟨w.heap.size+1,0,none⟩)]] 213
 have hmf:∀ (fn:Fn) (first cap:Array Value) (w:World),(Instr.makeFunc fn first cap).run prog w=.ok (.func fn first cap) w:=λ_ _ _ _=>rfl
 go_enter func236,ntmps236
 go_wp2_with fail
 refine (Ai _ _ _ _).mono ?_
 rintro e w1 ⟨rfl,rfl⟩
 go_wp2
 go_ret
 exact AM.mk (X:=[_,_,_]) h3 (Aj.mk BM (Ad (b:=w.heap.size+2) (ADX ..) sM (QU (e:=⟨25,ec,ei,em,en⟩) ok hm (ADV _ (ADV _ (ADX ..))) (ADV _ (ADX ..)))))
def Xf (h:KX B w0 A a m S w) (ok:AI ⟨26,ec,ei,em,en⟩) (hm:m+64<=1000000):Calls prog 236 #[.pointer (some ⟨a.k,0,none⟩),.agg #[.int .i64 26,.int .i64 ec,.int .i64 ei,.int .u64 (em:Int),.int .i64 en]] w λe w'=>AM B w0 a A m (m+64) S (A8 a.n S ⟨26,ec,ei,em,en⟩) e w':=by
 have h0:=h
 have h1:=h0.at (z:=w.heap.size) (by simp) [.pointer (some ⟨a.k,0,none⟩)] 23
 have h2:=h1.at (z:=w.heap.size+1) (by simp) [.int .i64 26,.int .i64 ec,.int .i64 ei,.int .u64 (em:Int),.int .i64 en] 34
 have h3:=h2.at (z:=w.heap.size+2) (by simp) [.pointer (some ⟨a.k,0,none⟩)] 23
 have h4:=h3.at (z:=w.heap.size+3) (by simp) [.int .i64 ec] 3
 have h5:=h4.at (z:=w.heap.size+4) (by simp) [.func (.func 292) #[] #[.pointer (some ⟨w.heap.size,0,none⟩)]] 257
 have hmf:∀ (fn:Fn) (first cap:Array Value) (w:World),(Instr.makeFunc fn first cap).run prog w=.ok (.func fn first cap) w:=λ_ _ _ _=>rfl
 go_enter func236,ntmps236
 go_wp2_with fail
 refine (DK _ _ _ _ _).mono ?_
 rintro e w1 ⟨rfl,rfl⟩
 go_wp2
 go_ret
 exact AM.mk (X:=[_,_,_,_,_]) h5 (Aj.mk F5 (KO (ADV _ (ADV _ (ADX ..))) (ADV _ (ADX ..)) (ADX ..) sN (by omega) (QV (e:=⟨26,ec,ei,em,en⟩) ec ok hm (ADV _ (ADV _ (ADV _ (ADV _ (ADX ..))))))))
def Xg (h:KX B w0 A a m S w) (ok:AI ⟨27,ec,ei,em,en⟩) (hm:m+64<=1000000):Calls prog 236 #[.pointer (some ⟨a.k,0,none⟩),.agg #[.int .i64 27,.int .i64 ec,.int .i64 ei,.int .u64 (em:Int),.int .i64 en]] w λe w'=>AM B w0 a A m (m+64) S (A8 a.n S ⟨27,ec,ei,em,en⟩) e w':=by
 have h0:=h
 have h1:=h0.at (z:=w.heap.size) (by simp) [.pointer (some ⟨a.k,0,none⟩)] 23
 have h2:=h1.at (z:=w.heap.size+1) (by simp) [.int .i64 27,.int .i64 ec,.int .i64 ei,.int .u64 (em:Int),.int .i64 en] 34
 have h3:=h2.at (z:=w.heap.size+2) (by simp) [.func (.func 294) #[] #[.pointer (some ⟨w.heap.size,0,none⟩),.pointer (some ⟨w.heap.size+1,0,none⟩)]] 213
 have hmf:∀ (fn:Fn) (first cap:Array Value) (w:World),(Instr.makeFunc fn first cap).run prog w=.ok (.func fn first cap) w:=λ_ _ _ _=>rfl
 go_enter func236,ntmps236
 go_wp2_with fail
 refine (Ai _ _ _ _).mono ?_
 rintro e w1 ⟨rfl,rfl⟩
 go_wp2
 go_ret
 exact AM.mk (X:=[_,_,_]) h3 (Aj.mk BM (Ad (b:=w.heap.size+2) (ADX ..) sO (QW (e:=⟨27,ec,ei,em,en⟩) ok hm (ADV _ (ADV _ (ADX ..))) (ADV _ (ADX ..)))))
def Xh (h:KX B w0 A a m S w) (ok:AI ⟨28,ec,ei,em,en⟩) (hm:m+64<=1000000):Calls prog 236 #[.pointer (some ⟨a.k,0,none⟩),.agg #[.int .i64 28,.int .i64 ec,.int .i64 ei,.int .u64 (em:Int),.int .i64 en]] w λe w'=>AM B w0 a A m (m+64) S (A8 a.n S ⟨28,ec,ei,em,en⟩) e w':=by
 have h0:=h
 have h1:=h0.at (z:=w.heap.size) (by simp) [.pointer (some ⟨a.k,0,none⟩)] 23
 have h2:=h1.at (z:=w.heap.size+1) (by simp) [.int .i64 28,.int .i64 ec,.int .i64 ei,.int .u64 (em:Int),.int .i64 en] 34
 have h3:=h2.at (z:=w.heap.size+2) (by simp) [.func (.func 296) #[] #[.pointer (some ⟨w.heap.size,0,none⟩),.pointer (some ⟨w.heap.size+1,0,none⟩)]] 213
 have hmf:∀ (fn:Fn) (first cap:Array Value) (w:World),(Instr.makeFunc fn first cap).run prog w=.ok (.func fn first cap) w:=λ_ _ _ _=>rfl
 go_enter func236,ntmps236
 go_wp2_with fail
 refine (Ai _ _ _ _).mono ?_
 rintro e w1 ⟨rfl,rfl⟩
 go_wp2
 go_ret
 exact AM.mk (X:=[_,_,_]) h3 (Aj.mk BM (Ad (b:=w.heap.size+2) (ADX ..) sP (QX (e:=⟨28,ec,ei,em,en⟩) ok hm (ADV _ (ADV _ (ADX ..))) (ADV _ (ADX ..)))))
def Xi (h:KX B w0 A a m S w) (ok:AI ⟨29,ec,ei,em,en⟩) (hm:m+64<=1000000):Calls prog 236 #[.pointer (some ⟨a.k,0,none⟩),.agg #[.int .i64 29,.int .i64 ec,.int .i64 ei,.int .u64 (em:Int),.int .i64 en]] w λe w'=>AM B w0 a A m (m+64) S (A8 a.n S ⟨29,ec,ei,em,en⟩) e w':=by
 have h0:=h
 have h1:=h0.at (z:=w.heap.size) (by simp) [.pointer (some ⟨a.k,0,none⟩)] 23
 have h2:=h1.at (z:=w.heap.size+1) (by simp) [.int .i64 29,.int .i64 ec,.int .i64 ei,.int .u64 (em:Int),.int .i64 en] 34
 have h3:=h2.at (z:=w.heap.size+2) (by simp) [.func (.func 298) #[] #[.pointer (some ⟨w.heap.size,0,none⟩),.pointer (some ⟨w.heap.size+1,0,none⟩)]] 213
 have hmf:∀ (fn:Fn) (first cap:Array Value) (w:World),(Instr.makeFunc fn first cap).run prog w=.ok (.func fn first cap) w:=λ_ _ _ _=>rfl
 go_enter func236,ntmps236
 go_wp2_with fail
 refine (Ai _ _ _ _).mono ?_
 rintro e w1 ⟨rfl,rfl⟩
 go_wp2
 go_ret
 exact AM.mk (X:=[_,_,_]) h3 (Aj.mk BM (Ad (b:=w.heap.size+2) (ADX ..) sQ (QY (e:=⟨29,ec,ei,em,en⟩) ok hm (ADV _ (ADV _ (ADX ..))) (ADV _ (ADX ..)))))
def Xj (h:KX B w0 A a m S w) (_ok:AI ⟨ek,ec,ei,em,en⟩) (_hm:m+64<=1000000) (q1:¬ ek=1) (q23:¬ ek=23) (q24:¬ ek=24) (q25:¬ ek=25) (q26:¬ ek=26) (q27:¬ ek=27) (q28:¬ ek=28) (q29:¬ ek=29):Calls prog 236 #[.pointer (some ⟨a.k,0,none⟩),.agg #[.int .i64 ek,.int .i64 ec,.int .i64 ei,.int .u64 (em:Int),.int .i64 en]] w λe w'=>AM B w0 a A m (m+64) S (A8 a.n S ⟨ek,ec,ei,em,en⟩) e w':=by
 have p1:(ek==1)=false:=by simpa using q1
 have p23:(ek==23)=false:=by simpa using q23
 have p24:(ek==24)=false:=by simpa using q24
 have p25:(ek==25)=false:=by simpa using q25
 have p26:(ek==26)=false:=by simpa using q26
 have p27:(ek==27)=false:=by simpa using q27
 have p28:(ek==28)=false:=by simpa using q28
 have p29:(ek==29)=false:=by simpa using q29
 have hr:A8 a.n S ⟨ek,ec,ei,em,en⟩=(0,2,S):=by
  unfold A8
  simp only [q1,q23,q24,q25,q26,q27,q28,q29,AHm,or_self]
 rw [hr]
 have h0:=h
 have h1:=h0.at (z:=w.heap.size) (by simp) [.pointer (some ⟨a.k,0,none⟩)] 23
 have h2:=h1.at (z:=w.heap.size+1) (by simp) [.int .i64 ek,.int .i64 ec,.int .i64 ei,.int .u64 (em:Int),.int .i64 en] 34
 have hmf:∀ (fn:Fn) (first cap:Array Value) (w:World),(Instr.makeFunc fn first cap).run prog w=.ok (.func fn first cap) w:=λ_ _ _ _=>rfl
 go_enter func236,ntmps236
 go_wp2_with fail
 refine (Lh h2 2).mono ?_
 rintro e w1 hw1
 obtain ⟨v,X,rfl,k,c⟩:=hw1
 go_wp2
 go_ret
 exact AM.sub (Y:=[_,_]) (AM.mk k c)
def T5 (h:KX B w0 A a m S w) (ok:AI e) (hm:m+64<=1000000):Calls prog 236 #[.pointer (some ⟨a.k,0,none⟩),.agg #[.int .i64 e.kind,.int .i64 e.cpu,.int .i64 e.id,.int .u64 (e.mask:Int),.int .i64 e.n]] w λx w'=>AM B w0 a A m (m+64) S (A8 a.n S e) x w':=by
 obtain ⟨ek,ec,ei,em,en⟩:=e
 simp only
 by_cases q1:ek=1
 ·subst q1
  exact bS h ok hm
 by_cases q23:ek=23
 ·subst q23
  exact Xc h ok hm
 by_cases q24:ek=24
 ·subst q24
  exact Xd h ok hm
 by_cases q25:ek=25
 ·subst q25
  exact Xe h ok hm
 by_cases q26:ek=26
 ·subst q26
  exact Xf h ok hm
 by_cases q27:ek=27
 ·subst q27
  exact Xg h ok hm
 by_cases q28:ek=28
 ·subst q28
  exact Xh h ok hm
 by_cases q29:ek=29
 ·subst q29
  exact Xi h ok hm
 exact Xj h ok hm q1 q23 q24 q25 q26 q27 q28 q29
end
section
variable {B:Nat} {w0:World} {A:List (Nat×List Value×TypeId)} {a:KA} {m m':Nat} {S S':KS} {w w':World}
def T6 (h:KX B w0 A a m S w) (ok:AI ⟨18,-1,ei,em,en⟩) (hm:m+64<=1000000):Calls prog 172 #[.pointer (some ⟨a.k,0,none⟩),.agg #[.int .i64 18,.int .i64 (-1),.int .i64 ei,.int .u64 (em:Int),.int .i64 en]] w λe w'=>AM B w0 a A m (m+64) S (Au a.n S ⟨18,-1,ei,em,en⟩) e w':=by
 have h0:=h
 have h1:=h0.at (z:=w.heap.size) (by simp) [.pointer (some ⟨a.k,0,none⟩)] 23
 have h2:=h1.at (z:=w.heap.size+1) (by simp) [.int .i64 18,.int .i64 (-1),.int .i64 ei,.int .u64 (em:Int),.int .i64 en] 34
 have hmf:∀ (fn:Fn) (first cap:Array Value) (w:World),(Instr.makeFunc fn first cap).run prog w=.ok (.func fn first cap) w:=λ_ _ _ _=>rfl
 go_enter func172,ntmps172
 go_wp2
 go_ret
 exact AM.mk (X:=[_,_]) h2 (Aj.mk sJ (O0 (e:=⟨18,-1,ei,em,en⟩) ok hm (ADV _ (ADX ..))))
def S9 (h:KX B w0 A a m S w) (_ok:AI ⟨18,ec,ei,em,en⟩) (_hm:m+64<=1000000) (qc:¬ ec=-1):Calls prog 172 #[.pointer (some ⟨a.k,0,none⟩),.agg #[.int .i64 18,.int .i64 ec,.int .i64 ei,.int .u64 (em:Int),.int .i64 en]] w λe w'=>AM B w0 a A m (m+64) S (Au a.n S ⟨18,ec,ei,em,en⟩) e w':=by
 have pc:(ec==-1)=false:=by simpa using qc
 have hr:Au a.n S ⟨18,ec,ei,em,en⟩=IU a.n S ec (queue a.n S ec):=by
  show (if ec=-1 then _ else _)=_
  rw [AHh qc]
 rw [hr]
 have h0:=h
 have h1:=h0.at (z:=w.heap.size) (by simp) [.pointer (some ⟨a.k,0,none⟩)] 23
 have h2:=h1.at (z:=w.heap.size+1) (by simp) [.int .i64 18,.int .i64 ec,.int .i64 ei,.int .u64 (em:Int),.int .i64 en] 34
 have h3:=h2.at (z:=w.heap.size+2) (by simp) [.pointer (some ⟨a.k,0,none⟩)] 23
 have h4:=h3.at (z:=w.heap.size+3) (by simp) [.int .i64 ec] 3
 have h5:=h4.at (z:=w.heap.size+4) (by simp) [.func (.func 229) #[.pointer (some ⟨a.wk+6,0,none⟩)] #[]] 257
 have k8:=h2.c8
 have hd:=h5.drew
 have y0:=((hd.bx (w.heap.size,[.pointer (some ⟨a.k,0,none⟩)],23) (ADV _ (ADV _ (ADV _ (ADV _ (ADX ..)))))).cell 0).trans (rfl:_=some (.pointer (some ⟨a.k,0,none⟩):Value))
 have y1:=((hd.bx (w.heap.size+1,[.int .i64 18,.int .i64 ec,.int .i64 ei,.int .u64 (em:Int),.int .i64 en],34) (ADV _ (ADV _ (ADV _ (ADX ..))))).cell 1).trans (rfl:_=some (.int .i64 ec:Value))
 have y2:=hd.c8
 have x0:=((h5.bx (w.heap.size,[.pointer (some ⟨a.k,0,none⟩)],23) (ADV _ (ADV _ (ADV _ (ADV _ (ADX ..)))))).cell 0).trans (rfl:_=some (.pointer (some ⟨a.k,0,none⟩):Value))
 have x1:=((h5.bx (w.heap.size+1,[.int .i64 18,.int .i64 ec,.int .i64 ei,.int .u64 (em:Int),.int .i64 en],34) (ADV _ (ADV _ (ADV _ (ADX ..))))).cell 1).trans (rfl:_=some (.int .i64 ec:Value))
 have x2:=h5.c8
 simp only at y0 y1 x0 x1
 have hmf:∀ (fn:Fn) (first cap:Array Value) (w:World),(Instr.makeFunc fn first cap).run prog w=.ok (.func fn first cap) w:=λ_ _ _ _=>rfl
 go_enter func172,ntmps172
 go_wp2_with fail
 go_region_held3 (λw'=>w'.cell? ⟨w.heap.size,0,none⟩=some (.pointer (some ⟨a.k,0,none⟩))/\w'.cell? ⟨w.heap.size+1,1,none⟩=some (.int .i64 ec)/\w'.cell? ⟨a.k,8,none⟩=some (.pointer (some ⟨a.wk+6,0,none⟩))) (go_keep)
  (first | (go_at_call 156;refine (DK _ _ _ _ _).mono ?_;rintro e w1 ⟨rfl,rfl⟩))
 go_wp2
 go_ret
 exact AM.mk (X:=[_,_,_,_,_]) h5.drew (Aj.mk F5 (KQ (ADV _ (ADV _ (ADX ..))) (ADV _ (ADX ..)) (ADX ..) rX (by omega) (λA' w s k=>(Sw k ec).mono λ_ _ x=>⟨x.1,x.2.more (by omega)⟩)))
def T7 (h:KX B w0 A a m S w) (ok:AI ⟨19,ec,ei,em,en⟩) (hm:m+64<=1000000):Calls prog 172 #[.pointer (some ⟨a.k,0,none⟩),.agg #[.int .i64 19,.int .i64 ec,.int .i64 ei,.int .u64 (em:Int),.int .i64 en]] w λe w'=>AM B w0 a A m (m+64) S (Au a.n S ⟨19,ec,ei,em,en⟩) e w':=by
 have h0:=h
 have h1:=h0.at (z:=w.heap.size) (by simp) [.pointer (some ⟨a.k,0,none⟩)] 23
 have h2:=h1.at (z:=w.heap.size+1) (by simp) [.int .i64 19,.int .i64 ec,.int .i64 ei,.int .u64 (em:Int),.int .i64 en] 34
 have hmf:∀ (fn:Fn) (first cap:Array Value) (w:World),(Instr.makeFunc fn first cap).run prog w=.ok (.func fn first cap) w:=λ_ _ _ _=>rfl
 go_enter func172,ntmps172
 go_wp2
 go_ret
 exact AM.mk (X:=[_,_]) h2 (Aj.mk sK (O1 (e:=⟨19,ec,ei,em,en⟩) ok hm (ADV _ (ADX ..)) (ADX ..)))
def T8 (h:KX B w0 A a m S w) (_ok:AI ⟨20,ec,ei,em,en⟩) (_hm:m+64<=1000000):Calls prog 172 #[.pointer (some ⟨a.k,0,none⟩),.agg #[.int .i64 20,.int .i64 ec,.int .i64 ei,.int .u64 (em:Int),.int .i64 en]] w λe w'=>AM B w0 a A m (m+64) S (Au a.n S ⟨20,ec,ei,em,en⟩) e w':=by
 have h0:=h
 have h1:=h0.at (z:=w.heap.size) (by simp) [.pointer (some ⟨a.k,0,none⟩)] 23
 have h2:=h1.at (z:=w.heap.size+1) (by simp) [.int .i64 20,.int .i64 ec,.int .i64 ei,.int .u64 (em:Int),.int .i64 en] 34
 have h3:=h2.at (z:=w.heap.size+2) (by simp) [.pointer (some ⟨a.k,0,none⟩)] 23
 have h4:=h3.at (z:=w.heap.size+3) (by simp) [.int .i64 ec] 3
 have h5:=h4.at (z:=w.heap.size+4) (by simp) [.func (.func 232) #[.pointer (some ⟨a.cl+3,0,none⟩)] #[]] 257
 have k9:=h2.c9
 have hd:=h5.drew
 have y0:=((hd.bx (w.heap.size,[.pointer (some ⟨a.k,0,none⟩)],23) (ADV _ (ADV _ (ADV _ (ADV _ (ADX ..)))))).cell 0).trans (rfl:_=some (.pointer (some ⟨a.k,0,none⟩):Value))
 have y1:=((hd.bx (w.heap.size+1,[.int .i64 20,.int .i64 ec,.int .i64 ei,.int .u64 (em:Int),.int .i64 en],34) (ADV _ (ADV _ (ADV _ (ADX ..))))).cell 1).trans (rfl:_=some (.int .i64 ec:Value))
 have y2:=hd.c9
 have x0:=((h5.bx (w.heap.size,[.pointer (some ⟨a.k,0,none⟩)],23) (ADV _ (ADV _ (ADV _ (ADV _ (ADX ..)))))).cell 0).trans (rfl:_=some (.pointer (some ⟨a.k,0,none⟩):Value))
 have x1:=((h5.bx (w.heap.size+1,[.int .i64 20,.int .i64 ec,.int .i64 ei,.int .u64 (em:Int),.int .i64 en],34) (ADV _ (ADV _ (ADV _ (ADX ..))))).cell 1).trans (rfl:_=some (.int .i64 ec:Value))
 have x2:=h5.c9
 simp only at y0 y1 x0 x1
 have hmf:∀ (fn:Fn) (first cap:Array Value) (w:World),(Instr.makeFunc fn first cap).run prog w=.ok (.func fn first cap) w:=λ_ _ _ _=>rfl
 go_enter func172,ntmps172
 go_wp2_with fail
 go_region_held3 (λw'=>w'.cell? ⟨w.heap.size,0,none⟩=some (.pointer (some ⟨a.k,0,none⟩))/\w'.cell? ⟨w.heap.size+1,1,none⟩=some (.int .i64 ec)/\w'.cell? ⟨a.k,9,none⟩=some (.pointer (some ⟨a.cl+3,0,none⟩))) (go_keep)
  (first | (go_at_call 156;refine (DK _ _ _ _ _).mono ?_;rintro e w1 ⟨rfl,rfl⟩))
 go_wp2
 go_ret
 exact AM.mk (X:=[_,_,_,_,_]) h5.drew (Aj.mk F5 (KQ (ADV _ (ADV _ (ADX ..))) (ADV _ (ADX ..)) (ADX ..) rY (by omega) (λA' w s k=>(qU k ec).mono λ_ _ x=>⟨x.1,x.2.more (by omega)⟩)))
def T9 (h:KX B w0 A a m S w) (_ok:AI ⟨21,ec,ei,em,en⟩) (_hm:m+64<=1000000):Calls prog 172 #[.pointer (some ⟨a.k,0,none⟩),.agg #[.int .i64 21,.int .i64 ec,.int .i64 ei,.int .u64 (em:Int),.int .i64 en]] w λe w'=>AM B w0 a A m (m+64) S (Au a.n S ⟨21,ec,ei,em,en⟩) e w':=by
 have h0:=h
 have h1:=h0.at (z:=w.heap.size) (by simp) [.pointer (some ⟨a.k,0,none⟩)] 23
 have h2:=h1.at (z:=w.heap.size+1) (by simp) [.int .i64 21,.int .i64 ec,.int .i64 ei,.int .u64 (em:Int),.int .i64 en] 34
 have h3:=h2.at (z:=w.heap.size+2) (by simp) [.pointer (some ⟨a.k,0,none⟩)] 23
 have h4:=h3.at (z:=w.heap.size+3) (by simp) [.int .i64 ec] 3
 have h5:=h4.at (z:=w.heap.size+4) (by simp) [.func (.func 233) #[.pointer (some ⟨a.ob,0,none⟩)] #[]] 257
 have k10:=h2.Np
 have hd:=h5.drew
 have y0:=((hd.bx (w.heap.size,[.pointer (some ⟨a.k,0,none⟩)],23) (ADV _ (ADV _ (ADV _ (ADV _ (ADX ..)))))).cell 0).trans (rfl:_=some (.pointer (some ⟨a.k,0,none⟩):Value))
 have y1:=((hd.bx (w.heap.size+1,[.int .i64 21,.int .i64 ec,.int .i64 ei,.int .u64 (em:Int),.int .i64 en],34) (ADV _ (ADV _ (ADV _ (ADX ..))))).cell 1).trans (rfl:_=some (.int .i64 ec:Value))
 have y2:=hd.Np
 have x0:=((h5.bx (w.heap.size,[.pointer (some ⟨a.k,0,none⟩)],23) (ADV _ (ADV _ (ADV _ (ADV _ (ADX ..)))))).cell 0).trans (rfl:_=some (.pointer (some ⟨a.k,0,none⟩):Value))
 have x1:=((h5.bx (w.heap.size+1,[.int .i64 21,.int .i64 ec,.int .i64 ei,.int .u64 (em:Int),.int .i64 en],34) (ADV _ (ADV _ (ADV _ (ADX ..))))).cell 1).trans (rfl:_=some (.int .i64 ec:Value))
 have x2:=h5.Np
 simp only at y0 y1 x0 x1
 have hmf:∀ (fn:Fn) (first cap:Array Value) (w:World),(Instr.makeFunc fn first cap).run prog w=.ok (.func fn first cap) w:=λ_ _ _ _=>rfl
 go_enter func172,ntmps172
 go_wp2_with fail
 go_region_held3 (λw'=>w'.cell? ⟨w.heap.size,0,none⟩=some (.pointer (some ⟨a.k,0,none⟩))/\w'.cell? ⟨w.heap.size+1,1,none⟩=some (.int .i64 ec)/\w'.cell? ⟨a.k,10,none⟩=some (.pointer (some ⟨a.ob,0,none⟩))) (go_keep)
  (first | (go_at_call 156;refine (DK _ _ _ _ _).mono ?_;rintro e w1 ⟨rfl,rfl⟩))
 go_wp2
 go_ret
 exact AM.mk (X:=[_,_,_,_,_]) h5.drew (Aj.mk F5 (KQ (ADV _ (ADV _ (ADX ..))) (ADV _ (ADX ..)) (ADX ..) rZ (by omega) (λA' w s k=>(gW k ec).mono λ_ _ x=>⟨x.1,x.2.more (by omega)⟩)))
def T' (h:KX B w0 A a m S w) (ok:AI ⟨22,ec,ei,em,en⟩) (hm:m+64<=1000000):Calls prog 172 #[.pointer (some ⟨a.k,0,none⟩),.agg #[.int .i64 22,.int .i64 ec,.int .i64 ei,.int .u64 (em:Int),.int .i64 en]] w λe w'=>AM B w0 a A m (m+64) S (Au a.n S ⟨22,ec,ei,em,en⟩) e w':=by
 have h0:=h
 have h1:=h0.at (z:=w.heap.size) (by simp) [.pointer (some ⟨a.k,0,none⟩)] 23
 have h2:=h1.at (z:=w.heap.size+1) (by simp) [.int .i64 22,.int .i64 ec,.int .i64 ei,.int .u64 (em:Int),.int .i64 en] 34
 have h3:=h2.at (z:=w.heap.size+2) (by simp) [.pointer (some ⟨a.k,0,none⟩)] 23
 have h4:=h3.at (z:=w.heap.size+3) (by simp) [.int .i64 ec] 3
 have h5:=h4.at (z:=w.heap.size+4) (by simp) [.func (.func 234) #[] #[.pointer (some ⟨w.heap.size,0,none⟩),.pointer (some ⟨w.heap.size+1,0,none⟩)]] 257
 have hmf:∀ (fn:Fn) (first cap:Array Value) (w:World),(Instr.makeFunc fn first cap).run prog w=.ok (.func fn first cap) w:=λ_ _ _ _=>rfl
 go_enter func172,ntmps172
 go_wp2_with fail
 refine (DK _ _ _ _ _).mono ?_
 rintro e w1 ⟨rfl,rfl⟩
 go_wp2
 go_ret
 exact AM.mk (X:=[_,_,_,_,_]) h5 (Aj.mk F5 (KO (ADV _ (ADV _ (ADX ..))) (ADV _ (ADX ..)) (ADX ..) sL (by omega) (O3 (e:=⟨22,ec,ei,em,en⟩) ec ok hm (ADV _ (ADV _ (ADV _ (ADV _ (ADX ..))))) (ADV _ (ADV _ (ADV _ (ADX ..)))))))
def UA (h:KX B w0 A a m S w) (ok:AI ⟨ek,ec,ei,em,en⟩) (hm:m+64<=1000000) (q18:¬ ek=18) (q19:¬ ek=19) (q20:¬ ek=20) (q21:¬ ek=21) (q22:¬ ek=22):Calls prog 172 #[.pointer (some ⟨a.k,0,none⟩),.agg #[.int .i64 ek,.int .i64 ec,.int .i64 ei,.int .u64 (em:Int),.int .i64 en]] w λe w'=>AM B w0 a A m (m+64) S (Au a.n S ⟨ek,ec,ei,em,en⟩) e w':=by
 have p18:(ek==18)=false:=by simpa using q18
 have p19:(ek==19)=false:=by simpa using q19
 have p20:(ek==20)=false:=by simpa using q20
 have p21:(ek==21)=false:=by simpa using q21
 have p22:(ek==22)=false:=by simpa using q22
 have hr:Au a.n S ⟨ek,ec,ei,em,en⟩=A8 a.n S ⟨ek,ec,ei,em,en⟩:=by
  unfold Au
  simp only [q18,q19,q20,q21,q22,AHm]
 rw [hr]
 have h0:=h
 have h1:=h0.at (z:=w.heap.size) (by simp) [.pointer (some ⟨a.k,0,none⟩)] 23
 have h2:=h1.at (z:=w.heap.size+1) (by simp) [.int .i64 ek,.int .i64 ec,.int .i64 ei,.int .u64 (em:Int),.int .i64 en] 34
 have hmf:∀ (fn:Fn) (first cap:Array Value) (w:World),(Instr.makeFunc fn first cap).run prog w=.ok (.func fn first cap) w:=λ_ _ _ _=>rfl
 go_enter func172,ntmps172
 go_wp2_with fail
 refine (T5 h2 ok hm).mono ?_
 rintro e w1 hw1
 obtain ⟨v,X,rfl,k,c⟩:=hw1
 go_wp2
 go_ret
 exact AM.sub (Y:=[_,_]) (AM.mk k c)
def TA (h:KX B w0 A a m S w) (ok:AI e) (hm:m+64<=1000000):Calls prog 172 #[.pointer (some ⟨a.k,0,none⟩),.agg #[.int .i64 e.kind,.int .i64 e.cpu,.int .i64 e.id,.int .u64 (e.mask:Int),.int .i64 e.n]] w λx w'=>AM B w0 a A m (m+64) S (Au a.n S e) x w':=by
 obtain ⟨ek,ec,ei,em,en⟩:=e
 simp only
 by_cases q18:ek=18
 ·subst q18
  by_cases qc:ec=-1
  ·subst qc
   exact T6 h ok hm
  ·exact S9 h ok hm qc
 by_cases q19:ek=19
 ·subst q19
  exact T7 h ok hm
 by_cases q20:ek=20
 ·subst q20
  exact T8 h ok hm
 by_cases q21:ek=21
 ·subst q21
  exact T9 h ok hm
 by_cases q22:ek=22
 ·subst q22
  exact T' h ok hm
 exact UA h ok hm q18 q19 q20 q21 q22
end
section
variable {B:Nat} {w0:World} {A:List (Nat×List Value×TypeId)} {a:KA} {m m':Nat} {S S':KS} {w w':World}
def UB (h:KX B w0 A a m S w) (ok:AI ⟨2,ec,ei,em,en⟩) (hm:m+64<=1000000):Calls prog 96 #[.pointer (some ⟨a.k,0,none⟩),.agg #[.int .i64 2,.int .i64 ec,.int .i64 ei,.int .u64 (em:Int),.int .i64 en]] w λe w'=>AM B w0 a A m (m+64) S (Ab a.n S ⟨2,ec,ei,em,en⟩) e w':=by
 have h0:=h
 have h1:=h0.at (z:=w.heap.size) (by simp) [.pointer (some ⟨a.k,0,none⟩)] 23
 have h2:=h1.at (z:=w.heap.size+1) (by simp) [.int .i64 2,.int .i64 ec,.int .i64 ei,.int .u64 (em:Int),.int .i64 en] 34
 have h3:=h2.at (z:=w.heap.size+2) (by simp) [.int .u64 (em:Int)] 29
 have h4:=h3.at (z:=w.heap.size+3) (by simp) [.func (.func 154) #[] #[.pointer (some ⟨w.heap.size,0,none⟩),.pointer (some ⟨w.heap.size+1,0,none⟩)]] 213
 have hmf:∀ (fn:Fn) (first cap:Array Value) (w:World),(Instr.makeFunc fn first cap).run prog w=.ok (.func fn first cap) w:=λ_ _ _ _=>rfl
 go_enter func96,ntmps96
 go_wp2_with fail
 refine (Ai _ _ _ _).mono ?_
 rintro e w1 ⟨rfl,rfl⟩
 go_wp2
 go_ret
 exact AM.mk (X:=[_,_,_,_]) h4 (Aj.mk BM (Ad (b:=w.heap.size+3) (ADX ..) sA (N0 (e:=⟨2,ec,ei,em,en⟩) ok hm (ADV _ (ADV _ (ADV _ (ADX ..)))) (ADV _ (ADV _ (ADX ..))))))
def TC (h:KX B w0 A a m S w) (ok:AI ⟨10,ec,ei,em,en⟩) (hm:m+64<=1000000):Calls prog 96 #[.pointer (some ⟨a.k,0,none⟩),.agg #[.int .i64 10,.int .i64 ec,.int .i64 ei,.int .u64 (em:Int),.int .i64 en]] w λe w'=>AM B w0 a A m (m+64) S (Ab a.n S ⟨10,ec,ei,em,en⟩) e w':=by
 have h0:=h
 have h1:=h0.at (z:=w.heap.size) (by simp) [.pointer (some ⟨a.k,0,none⟩)] 23
 have h2:=h1.at (z:=w.heap.size+1) (by simp) [.int .i64 10,.int .i64 ec,.int .i64 ei,.int .u64 (em:Int),.int .i64 en] 34
 have h3:=h2.at (z:=w.heap.size+2) (by simp) [.int .u64 (em:Int)] 29
 have h4:=h3.at (z:=w.heap.size+3) (by simp) [.pointer (some ⟨a.k,0,none⟩)] 23
 have h5:=h4.at (z:=w.heap.size+4) (by simp) [.int .i64 ec] 3
 have h6:=h5.at (z:=w.heap.size+5) (by simp) [.func (.func 157) #[] #[.pointer (some ⟨w.heap.size,0,none⟩),.pointer (some ⟨w.heap.size+1,0,none⟩)]] 257
 have hmf:∀ (fn:Fn) (first cap:Array Value) (w:World),(Instr.makeFunc fn first cap).run prog w=.ok (.func fn first cap) w:=λ_ _ _ _=>rfl
 go_enter func96,ntmps96
 go_wp2_with fail
 refine (DK _ _ _ _ _).mono ?_
 rintro e w1 ⟨rfl,rfl⟩
 go_wp2
 go_ret
 exact AM.mk (X:=[_,_,_,_,_,_]) h6 (Aj.mk F5 (KO (ADV _ (ADV _ (ADX ..))) (ADV _ (ADX ..)) (ADX ..) sB (by omega) (N5 (e:=⟨10,ec,ei,em,en⟩) ec ok hm (ADV _ (ADV _ (ADV _ (ADV _ (ADV _ (ADX ..)))))) (ADV _ (ADV _ (ADV _ (ADV _ (ADX ..))))))))
def TD (h:KX B w0 A a m S w) (ok:AI ⟨11,ec,ei,em,en⟩) (hm:m+64<=1000000):Calls prog 96 #[.pointer (some ⟨a.k,0,none⟩),.agg #[.int .i64 11,.int .i64 ec,.int .i64 ei,.int .u64 (em:Int),.int .i64 en]] w λe w'=>AM B w0 a A m (m+64) S (Ab a.n S ⟨11,ec,ei,em,en⟩) e w':=by
 have h0:=h
 have h1:=h0.at (z:=w.heap.size) (by simp) [.pointer (some ⟨a.k,0,none⟩)] 23
 have h2:=h1.at (z:=w.heap.size+1) (by simp) [.int .i64 11,.int .i64 ec,.int .i64 ei,.int .u64 (em:Int),.int .i64 en] 34
 have h3:=h2.at (z:=w.heap.size+2) (by simp) [.int .u64 (em:Int)] 29
 have h4:=h3.at (z:=w.heap.size+3) (by simp) [.func (.func 158) #[] #[.pointer (some ⟨w.heap.size,0,none⟩),.pointer (some ⟨w.heap.size+1,0,none⟩)]] 213
 have hmf:∀ (fn:Fn) (first cap:Array Value) (w:World),(Instr.makeFunc fn first cap).run prog w=.ok (.func fn first cap) w:=λ_ _ _ _=>rfl
 go_enter func96,ntmps96
 go_wp2_with fail
 refine (Ai _ _ _ _).mono ?_
 rintro e w1 ⟨rfl,rfl⟩
 go_wp2
 go_ret
 exact AM.mk (X:=[_,_,_,_]) h4 (Aj.mk BM (Ad (b:=w.heap.size+3) (ADX ..) sC (N7 (e:=⟨11,ec,ei,em,en⟩) ok hm (ADV _ (ADV _ (ADV _ (ADX ..)))) (ADV _ (ADV _ (ADX ..))))))
def TE (h:KX B w0 A a m S w) (ok:AI ⟨12,ec,ei,em,en⟩) (hm:m+64<=1000000):Calls prog 96 #[.pointer (some ⟨a.k,0,none⟩),.agg #[.int .i64 12,.int .i64 ec,.int .i64 ei,.int .u64 (em:Int),.int .i64 en]] w λe w'=>AM B w0 a A m (m+64) S (Ab a.n S ⟨12,ec,ei,em,en⟩) e w':=by
 have h0:=h
 have h1:=h0.at (z:=w.heap.size) (by simp) [.pointer (some ⟨a.k,0,none⟩)] 23
 have h2:=h1.at (z:=w.heap.size+1) (by simp) [.int .i64 12,.int .i64 ec,.int .i64 ei,.int .u64 (em:Int),.int .i64 en] 34
 have h3:=h2.at (z:=w.heap.size+2) (by simp) [.int .u64 (em:Int)] 29
 have h4:=h3.at (z:=w.heap.size+3) (by simp) [.func (.func 160) #[] #[.pointer (some ⟨w.heap.size,0,none⟩),.pointer (some ⟨w.heap.size+1,0,none⟩),.pointer (some ⟨w.heap.size+2,0,none⟩)]] 213
 have hmf:∀ (fn:Fn) (first cap:Array Value) (w:World),(Instr.makeFunc fn first cap).run prog w=.ok (.func fn first cap) w:=λ_ _ _ _=>rfl
 go_enter func96,ntmps96
 go_wp2_with fail
 refine (Ai _ _ _ _).mono ?_
 rintro e w1 ⟨rfl,rfl⟩
 go_wp2
 go_ret
 exact AM.mk (X:=[_,_,_,_]) h4 (Aj.mk BM (Ad (b:=w.heap.size+3) (ADX ..) sD (N8 (e:=⟨12,ec,ei,em,en⟩) ok hm (ADV _ (ADV _ (ADV _ (ADX ..)))) (ADV _ (ADV _ (ADX ..))) (ADV _ (ADX ..)))))
def TF (h:KX B w0 A a m S w) (ok:AI ⟨13,ec,ei,em,en⟩) (hm:m+64<=1000000):Calls prog 96 #[.pointer (some ⟨a.k,0,none⟩),.agg #[.int .i64 13,.int .i64 ec,.int .i64 ei,.int .u64 (em:Int),.int .i64 en]] w λe w'=>AM B w0 a A m (m+64) S (Ab a.n S ⟨13,ec,ei,em,en⟩) e w':=by
 have h0:=h
 have h1:=h0.at (z:=w.heap.size) (by simp) [.pointer (some ⟨a.k,0,none⟩)] 23
 have h2:=h1.at (z:=w.heap.size+1) (by simp) [.int .i64 13,.int .i64 ec,.int .i64 ei,.int .u64 (em:Int),.int .i64 en] 34
 have h3:=h2.at (z:=w.heap.size+2) (by simp) [.int .u64 (em:Int)] 29
 have h4:=h3.at (z:=w.heap.size+3) (by simp) [.func (.func 162) #[] #[.pointer (some ⟨w.heap.size,0,none⟩),.pointer (some ⟨w.heap.size+1,0,none⟩)]] 213
 have hmf:∀ (fn:Fn) (first cap:Array Value) (w:World),(Instr.makeFunc fn first cap).run prog w=.ok (.func fn first cap) w:=λ_ _ _ _=>rfl
 go_enter func96,ntmps96
 go_wp2_with fail
 refine (Ai _ _ _ _).mono ?_
 rintro e w1 ⟨rfl,rfl⟩
 go_wp2
 go_ret
 exact AM.mk (X:=[_,_,_,_]) h4 (Aj.mk BM (Ad (b:=w.heap.size+3) (ADX ..) sE (N9 (e:=⟨13,ec,ei,em,en⟩) ok hm (ADV _ (ADV _ (ADV _ (ADX ..)))) (ADV _ (ADV _ (ADX ..))))))
def TG (h:KX B w0 A a m S w) (ok:AI ⟨14,ec,ei,em,en⟩) (hm:m+64<=1000000):Calls prog 96 #[.pointer (some ⟨a.k,0,none⟩),.agg #[.int .i64 14,.int .i64 ec,.int .i64 ei,.int .u64 (em:Int),.int .i64 en]] w λe w'=>AM B w0 a A m (m+64) S (Ab a.n S ⟨14,ec,ei,em,en⟩) e w':=by
 have h0:=h
 have h1:=h0.at (z:=w.heap.size) (by simp) [.pointer (some ⟨a.k,0,none⟩)] 23
 have h2:=h1.at (z:=w.heap.size+1) (by simp) [.int .i64 14,.int .i64 ec,.int .i64 ei,.int .u64 (em:Int),.int .i64 en] 34
 have h3:=h2.at (z:=w.heap.size+2) (by simp) [.int .u64 (em:Int)] 29
 have h4:=h3.at (z:=w.heap.size+3) (by simp) [.func (.func 164) #[] #[.pointer (some ⟨w.heap.size,0,none⟩),.pointer (some ⟨w.heap.size+1,0,none⟩),.pointer (some ⟨w.heap.size+2,0,none⟩)]] 213
 have hmf:∀ (fn:Fn) (first cap:Array Value) (w:World),(Instr.makeFunc fn first cap).run prog w=.ok (.func fn first cap) w:=λ_ _ _ _=>rfl
 go_enter func96,ntmps96
 go_wp2_with fail
 refine (Ai _ _ _ _).mono ?_
 rintro e w1 ⟨rfl,rfl⟩
 go_wp2
 go_ret
 exact AM.mk (X:=[_,_,_,_]) h4 (Aj.mk BM (Ad (b:=w.heap.size+3) (ADX ..) sF (OA (e:=⟨14,ec,ei,em,en⟩) ok hm (ADV _ (ADV _ (ADV _ (ADX ..)))) (ADV _ (ADV _ (ADX ..))) (ADV _ (ADX ..)))))
def TH (h:KX B w0 A a m S w) (ok:AI ⟨15,ec,ei,em,en⟩) (hm:m+64<=1000000):Calls prog 96 #[.pointer (some ⟨a.k,0,none⟩),.agg #[.int .i64 15,.int .i64 ec,.int .i64 ei,.int .u64 (em:Int),.int .i64 en]] w λe w'=>AM B w0 a A m (m+64) S (Ab a.n S ⟨15,ec,ei,em,en⟩) e w':=by
 have h0:=h
 have h1:=h0.at (z:=w.heap.size) (by simp) [.pointer (some ⟨a.k,0,none⟩)] 23
 have h2:=h1.at (z:=w.heap.size+1) (by simp) [.int .i64 15,.int .i64 ec,.int .i64 ei,.int .u64 (em:Int),.int .i64 en] 34
 have h3:=h2.at (z:=w.heap.size+2) (by simp) [.int .u64 (em:Int)] 29
 have h4:=h3.at (z:=w.heap.size+3) (by simp) [.func (.func 166) #[] #[.pointer (some ⟨w.heap.size,0,none⟩),.pointer (some ⟨w.heap.size+1,0,none⟩)]] 213
 have hmf:∀ (fn:Fn) (first cap:Array Value) (w:World),(Instr.makeFunc fn first cap).run prog w=.ok (.func fn first cap) w:=λ_ _ _ _=>rfl
 go_enter func96,ntmps96
 go_wp2_with fail
 refine (Ai _ _ _ _).mono ?_
 rintro e w1 ⟨rfl,rfl⟩
 go_wp2
 go_ret
 exact AM.mk (X:=[_,_,_,_]) h4 (Aj.mk BM (Ad (b:=w.heap.size+3) (ADX ..) sG (OB (e:=⟨15,ec,ei,em,en⟩) ok hm (ADV _ (ADV _ (ADV _ (ADX ..)))) (ADV _ (ADV _ (ADX ..))))))
def TI (h:KX B w0 A a m S w) (ok:AI ⟨16,ec,ei,em,en⟩) (hm:m+64<=1000000):Calls prog 96 #[.pointer (some ⟨a.k,0,none⟩),.agg #[.int .i64 16,.int .i64 ec,.int .i64 ei,.int .u64 (em:Int),.int .i64 en]] w λe w'=>AM B w0 a A m (m+64) S (Ab a.n S ⟨16,ec,ei,em,en⟩) e w':=by
 have h0:=h
 have h1:=h0.at (z:=w.heap.size) (by simp) [.pointer (some ⟨a.k,0,none⟩)] 23
 have h2:=h1.at (z:=w.heap.size+1) (by simp) [.int .i64 16,.int .i64 ec,.int .i64 ei,.int .u64 (em:Int),.int .i64 en] 34
 have h3:=h2.at (z:=w.heap.size+2) (by simp) [.int .u64 (em:Int)] 29
 have h4:=h3.at (z:=w.heap.size+3) (by simp) [.func (.func 168) #[] #[.pointer (some ⟨w.heap.size,0,none⟩),.pointer (some ⟨w.heap.size+1,0,none⟩)]] 213
 have hmf:∀ (fn:Fn) (first cap:Array Value) (w:World),(Instr.makeFunc fn first cap).run prog w=.ok (.func fn first cap) w:=λ_ _ _ _=>rfl
 go_enter func96,ntmps96
 go_wp2_with fail
 refine (Ai _ _ _ _).mono ?_
 rintro e w1 ⟨rfl,rfl⟩
 go_wp2
 go_ret
 exact AM.mk (X:=[_,_,_,_]) h4 (Aj.mk BM (Ad (b:=w.heap.size+3) (ADX ..) sH (OD (e:=⟨16,ec,ei,em,en⟩) ok hm (ADV _ (ADV _ (ADV _ (ADX ..)))) (ADV _ (ADV _ (ADX ..))))))
def TJ (h:KX B w0 A a m S w) (ok:AI ⟨17,ec,ei,em,en⟩) (hm:m+64<=1000000):Calls prog 96 #[.pointer (some ⟨a.k,0,none⟩),.agg #[.int .i64 17,.int .i64 ec,.int .i64 ei,.int .u64 (em:Int),.int .i64 en]] w λe w'=>AM B w0 a A m (m+64) S (Ab a.n S ⟨17,ec,ei,em,en⟩) e w':=by
 have h0:=h
 have h1:=h0.at (z:=w.heap.size) (by simp) [.pointer (some ⟨a.k,0,none⟩)] 23
 have h2:=h1.at (z:=w.heap.size+1) (by simp) [.int .i64 17,.int .i64 ec,.int .i64 ei,.int .u64 (em:Int),.int .i64 en] 34
 have h3:=h2.at (z:=w.heap.size+2) (by simp) [.int .u64 (em:Int)] 29
 have h4:=h3.at (z:=w.heap.size+3) (by simp) [.func (.func 170) #[] #[.pointer (some ⟨w.heap.size,0,none⟩),.pointer (some ⟨w.heap.size+1,0,none⟩)]] 213
 have hmf:∀ (fn:Fn) (first cap:Array Value) (w:World),(Instr.makeFunc fn first cap).run prog w=.ok (.func fn first cap) w:=λ_ _ _ _=>rfl
 go_enter func96,ntmps96
 go_wp2_with fail
 refine (Ai _ _ _ _).mono ?_
 rintro e w1 ⟨rfl,rfl⟩
 go_wp2
 go_ret
 exact AM.mk (X:=[_,_,_,_]) h4 (Aj.mk BM (Ad (b:=w.heap.size+3) (ADX ..) sI (OE (e:=⟨17,ec,ei,em,en⟩) ok hm (ADV _ (ADV _ (ADV _ (ADX ..)))) (ADV _ (ADV _ (ADX ..))))))
def TL (h:KX B w0 A a m S w) (ok:AI ⟨ek,ec,ei,em,en⟩) (hm:m+64<=1000000) (q2:¬ ek=2) (q10:¬ ek=10) (q11:¬ ek=11) (q12:¬ ek=12) (q13:¬ ek=13) (q14:¬ ek=14) (q15:¬ ek=15) (q16:¬ ek=16) (q17:¬ ek=17):Calls prog 96 #[.pointer (some ⟨a.k,0,none⟩),.agg #[.int .i64 ek,.int .i64 ec,.int .i64 ei,.int .u64 (em:Int),.int .i64 en]] w λe w'=>AM B w0 a A m (m+64) S (Ab a.n S ⟨ek,ec,ei,em,en⟩) e w':=by
 have p2:(ek==2)=false:=by simpa using q2
 have p10:(ek==10)=false:=by simpa using q10
 have p11:(ek==11)=false:=by simpa using q11
 have p12:(ek==12)=false:=by simpa using q12
 have p13:(ek==13)=false:=by simpa using q13
 have p14:(ek==14)=false:=by simpa using q14
 have p15:(ek==15)=false:=by simpa using q15
 have p16:(ek==16)=false:=by simpa using q16
 have p17:(ek==17)=false:=by simpa using q17
 have hr:Ab a.n S ⟨ek,ec,ei,em,en⟩=Au a.n S ⟨ek,ec,ei,em,en⟩:=by
  unfold Ab
  simp only [q2,q10,q11,q12,q13,q14,q15,q16,q17,AHm]
 rw [hr]
 have h0:=h
 have h1:=h0.at (z:=w.heap.size) (by simp) [.pointer (some ⟨a.k,0,none⟩)] 23
 have h2:=h1.at (z:=w.heap.size+1) (by simp) [.int .i64 ek,.int .i64 ec,.int .i64 ei,.int .u64 (em:Int),.int .i64 en] 34
 have h3:=h2.at (z:=w.heap.size+2) (by simp) [.int .u64 (em:Int)] 29
 have hmf:∀ (fn:Fn) (first cap:Array Value) (w:World),(Instr.makeFunc fn first cap).run prog w=.ok (.func fn first cap) w:=λ_ _ _ _=>rfl
 go_enter func96,ntmps96
 go_wp2_with fail
 refine (TA h3 ok hm).mono ?_
 rintro e w1 hw1
 obtain ⟨v,X,rfl,k,c⟩:=hw1
 go_wp2
 go_ret
 exact AM.sub (Y:=[_,_,_]) (AM.mk k c)
def QZ (h:KX B w0 A a m S w) (ok:AI e) (hm:m+64<=1000000):Calls prog 96 #[.pointer (some ⟨a.k,0,none⟩),.agg #[.int .i64 e.kind,.int .i64 e.cpu,.int .i64 e.id,.int .u64 (e.mask:Int),.int .i64 e.n]] w λx w'=>AM B w0 a A m (m+64) S (Ab a.n S e) x w':=by
 obtain ⟨ek,ec,ei,em,en⟩:=e
 simp only
 by_cases q2:ek=2
 ·subst q2
  exact UB h ok hm
 by_cases q10:ek=10
 ·subst q10
  exact TC h ok hm
 by_cases q11:ek=11
 ·subst q11
  exact TD h ok hm
 by_cases q12:ek=12
 ·subst q12
  exact TE h ok hm
 by_cases q13:ek=13
 ·subst q13
  exact TF h ok hm
 by_cases q14:ek=14
 ·subst q14
  exact TG h ok hm
 by_cases q15:ek=15
 ·subst q15
  exact TH h ok hm
 by_cases q16:ek=16
 ·subst q16
  exact TI h ok hm
 by_cases q17:ek=17
 ·subst q17
  exact TJ h ok hm
 exact TL h ok hm q2 q10 q11 q12 q13 q14 q15 q16 q17
end
section
variable {B:Nat} {w0:World} {A:List (Nat×List Value×TypeId)} {a:KA} {m m':Nat} {S S':KS} {w w':World}
def UC (h:KX B w0 A a m S w) (ok:AI ⟨3,ec,ei,em,en⟩) (hm:m+64<=1000000):Calls prog 43 #[.pointer (some ⟨a.k,0,none⟩),.agg #[.int .i64 3,.int .i64 ec,.int .i64 ei,.int .u64 (em:Int),.int .i64 en]] w λe w'=>AM B w0 a A m (m+64) S (AF a.n S ⟨3,ec,ei,em,en⟩) e w':=by
 have h0:=h
 have h1:=h0.at (z:=w.heap.size) (by simp) [.pointer (some ⟨a.k,0,none⟩)] 23
 have h2:=h1.at (z:=w.heap.size+1) (by simp) [.int .i64 3,.int .i64 ec,.int .i64 ei,.int .u64 (em:Int),.int .i64 en] 34
 have h3:=h2.at (z:=w.heap.size+2) (by simp) [.int .u64 (em:Int)] 29
 have hmf:∀ (fn:Fn) (first cap:Array Value) (w:World),(Instr.makeFunc fn first cap).run prog w=.ok (.func fn first cap) w:=λ_ _ _ _=>rfl
 go_enter func43,ntmps43
 go_wp2
 go_ret
 exact AM.mk (X:=[_,_,_]) h3 (Aj.mk AAg (Nt (e:=⟨3,ec,ei,em,en⟩) ok hm (ADV _ (ADV _ (ADX ..))) (ADV _ (ADX ..)) (ADX ..)))
def UD (h:KX B w0 A a m S w) (ok:AI ⟨4,ec,ei,em,en⟩) (hm:m+64<=1000000):Calls prog 43 #[.pointer (some ⟨a.k,0,none⟩),.agg #[.int .i64 4,.int .i64 ec,.int .i64 ei,.int .u64 (em:Int),.int .i64 en]] w λe w'=>AM B w0 a A m (m+64) S (AF a.n S ⟨4,ec,ei,em,en⟩) e w':=by
 have h0:=h
 have h1:=h0.at (z:=w.heap.size) (by simp) [.pointer (some ⟨a.k,0,none⟩)] 23
 have h2:=h1.at (z:=w.heap.size+1) (by simp) [.int .i64 4,.int .i64 ec,.int .i64 ei,.int .u64 (em:Int),.int .i64 en] 34
 have h3:=h2.at (z:=w.heap.size+2) (by simp) [.int .u64 (em:Int)] 29
 have h4:=h3.at (z:=w.heap.size+3) (by simp) [.pointer (some ⟨a.k,0,none⟩)] 23
 have h5:=h4.at (z:=w.heap.size+4) (by simp) [.int .i64 ei] 3
 have h6:=h5.at (z:=w.heap.size+5) (by simp) [.func (.func 83) #[] #[.pointer (some ⟨w.heap.size,0,none⟩),.pointer (some ⟨w.heap.size+1,0,none⟩)]] 209
 have hmf:∀ (fn:Fn) (first cap:Array Value) (w:World),(Instr.makeFunc fn first cap).run prog w=.ok (.func fn first cap) w:=λ_ _ _ _=>rfl
 go_enter func43,ntmps43
 go_wp2_with fail
 refine (C9 _ _ _ _ _).mono ?_
 rintro e w1 ⟨rfl,rfl⟩
 go_wp2
 go_ret
 exact AM.mk (X:=[_,_,_,_,_,_]) h6 (Aj.mk Ib (Cn (ADV _ (ADV _ (ADX ..))) (ADV _ (ADX ..)) (ADX ..) AAh (by omega) (Nu (e:=⟨4,ec,ei,em,en⟩) ok hm (ADV _ (ADV _ (ADV _ (ADV _ (ADV _ (ADX ..)))))) (ADV _ (ADV _ (ADV _ (ADV _ (ADX ..))))))))
def UE (h:KX B w0 A a m S w) (ok:AI ⟨5,ec,ei,em,en⟩) (hm:m+64<=1000000):Calls prog 43 #[.pointer (some ⟨a.k,0,none⟩),.agg #[.int .i64 5,.int .i64 ec,.int .i64 ei,.int .u64 (em:Int),.int .i64 en]] w λe w'=>AM B w0 a A m (m+64) S (AF a.n S ⟨5,ec,ei,em,en⟩) e w':=by
 have h0:=h
 have h1:=h0.at (z:=w.heap.size) (by simp) [.pointer (some ⟨a.k,0,none⟩)] 23
 have h2:=h1.at (z:=w.heap.size+1) (by simp) [.int .i64 5,.int .i64 ec,.int .i64 ei,.int .u64 (em:Int),.int .i64 en] 34
 have h3:=h2.at (z:=w.heap.size+2) (by simp) [.int .u64 (em:Int)] 29
 have h4:=h3.at (z:=w.heap.size+3) (by simp) [.pointer (some ⟨a.k,0,none⟩)] 23
 have h5:=h4.at (z:=w.heap.size+4) (by simp) [.int .i64 ei] 3
 have h6:=h5.at (z:=w.heap.size+5) (by simp) [.func (.func 85) #[] #[.pointer (some ⟨w.heap.size,0,none⟩),.pointer (some ⟨w.heap.size+1,0,none⟩)]] 209
 have hmf:∀ (fn:Fn) (first cap:Array Value) (w:World),(Instr.makeFunc fn first cap).run prog w=.ok (.func fn first cap) w:=λ_ _ _ _=>rfl
 go_enter func43,ntmps43
 go_wp2_with fail
 refine (C9 _ _ _ _ _).mono ?_
 rintro e w1 ⟨rfl,rfl⟩
 go_wp2
 go_ret
 exact AM.mk (X:=[_,_,_,_,_,_]) h6 (Aj.mk Ib (Cn (ADV _ (ADV _ (ADX ..))) (ADV _ (ADX ..)) (ADX ..) AAi (by omega) (Nv (e:=⟨5,ec,ei,em,en⟩) ok hm (ADV _ (ADV _ (ADV _ (ADV _ (ADV _ (ADX ..)))))) (ADV _ (ADV _ (ADV _ (ADV _ (ADX ..))))))))
def UF (h:KX B w0 A a m S w) (ok:AI ⟨6,ec,ei,em,en⟩) (hm:m+64<=1000000):Calls prog 43 #[.pointer (some ⟨a.k,0,none⟩),.agg #[.int .i64 6,.int .i64 ec,.int .i64 ei,.int .u64 (em:Int),.int .i64 en]] w λe w'=>AM B w0 a A m (m+64) S (AF a.n S ⟨6,ec,ei,em,en⟩) e w':=by
 have h0:=h
 have h1:=h0.at (z:=w.heap.size) (by simp) [.pointer (some ⟨a.k,0,none⟩)] 23
 have h2:=h1.at (z:=w.heap.size+1) (by simp) [.int .i64 6,.int .i64 ec,.int .i64 ei,.int .u64 (em:Int),.int .i64 en] 34
 have h3:=h2.at (z:=w.heap.size+2) (by simp) [.int .u64 (em:Int)] 29
 have h4:=h3.at (z:=w.heap.size+3) (by simp) [.pointer (some ⟨a.k,0,none⟩)] 23
 have h5:=h4.at (z:=w.heap.size+4) (by simp) [.int .i64 ei] 3
 have h6:=h5.at (z:=w.heap.size+5) (by simp) [.func (.func 87) #[] #[.pointer (some ⟨w.heap.size,0,none⟩),.pointer (some ⟨w.heap.size+1,0,none⟩)]] 209
 have hmf:∀ (fn:Fn) (first cap:Array Value) (w:World),(Instr.makeFunc fn first cap).run prog w=.ok (.func fn first cap) w:=λ_ _ _ _=>rfl
 go_enter func43,ntmps43
 go_wp2_with fail
 refine (C9 _ _ _ _ _).mono ?_
 rintro e w1 ⟨rfl,rfl⟩
 go_wp2
 go_ret
 exact AM.mk (X:=[_,_,_,_,_,_]) h6 (Aj.mk Ib (Cn (ADV _ (ADV _ (ADX ..))) (ADV _ (ADX ..)) (ADX ..) AAj (by omega) (Nw (e:=⟨6,ec,ei,em,en⟩) ok hm (ADV _ (ADV _ (ADV _ (ADV _ (ADV _ (ADX ..)))))) (ADV _ (ADV _ (ADV _ (ADV _ (ADX ..))))))))
def UG (h:KX B w0 A a m S w) (ok:AI ⟨7,ec,ei,em,en⟩) (hm:m+64<=1000000):Calls prog 43 #[.pointer (some ⟨a.k,0,none⟩),.agg #[.int .i64 7,.int .i64 ec,.int .i64 ei,.int .u64 (em:Int),.int .i64 en]] w λe w'=>AM B w0 a A m (m+64) S (AF a.n S ⟨7,ec,ei,em,en⟩) e w':=by
 have h0:=h
 have h1:=h0.at (z:=w.heap.size) (by simp) [.pointer (some ⟨a.k,0,none⟩)] 23
 have h2:=h1.at (z:=w.heap.size+1) (by simp) [.int .i64 7,.int .i64 ec,.int .i64 ei,.int .u64 (em:Int),.int .i64 en] 34
 have h3:=h2.at (z:=w.heap.size+2) (by simp) [.int .u64 (em:Int)] 29
 have h4:=h3.at (z:=w.heap.size+3) (by simp) [.pointer (some ⟨a.k,0,none⟩)] 23
 have h5:=h4.at (z:=w.heap.size+4) (by simp) [.int .i64 ei] 3
 have h6:=h5.at (z:=w.heap.size+5) (by simp) [.func (.func 89) #[] #[.pointer (some ⟨w.heap.size,0,none⟩),.pointer (some ⟨w.heap.size+1,0,none⟩)]] 209
 have hmf:∀ (fn:Fn) (first cap:Array Value) (w:World),(Instr.makeFunc fn first cap).run prog w=.ok (.func fn first cap) w:=λ_ _ _ _=>rfl
 go_enter func43,ntmps43
 go_wp2_with fail
 refine (C9 _ _ _ _ _).mono ?_
 rintro e w1 ⟨rfl,rfl⟩
 go_wp2
 go_ret
 exact AM.mk (X:=[_,_,_,_,_,_]) h6 (Aj.mk Ib (Cn (ADV _ (ADV _ (ADX ..))) (ADV _ (ADX ..)) (ADX ..) AAk (by omega) (Nx (e:=⟨7,ec,ei,em,en⟩) ok hm (ADV _ (ADV _ (ADV _ (ADV _ (ADV _ (ADX ..)))))) (ADV _ (ADV _ (ADV _ (ADV _ (ADX ..))))))))
def UH (h:KX B w0 A a m S w) (ok:AI ⟨8,ec,ei,em,en⟩) (hm:m+64<=1000000):Calls prog 43 #[.pointer (some ⟨a.k,0,none⟩),.agg #[.int .i64 8,.int .i64 ec,.int .i64 ei,.int .u64 (em:Int),.int .i64 en]] w λe w'=>AM B w0 a A m (m+64) S (AF a.n S ⟨8,ec,ei,em,en⟩) e w':=by
 have h0:=h
 have h1:=h0.at (z:=w.heap.size) (by simp) [.pointer (some ⟨a.k,0,none⟩)] 23
 have h2:=h1.at (z:=w.heap.size+1) (by simp) [.int .i64 8,.int .i64 ec,.int .i64 ei,.int .u64 (em:Int),.int .i64 en] 34
 have h3:=h2.at (z:=w.heap.size+2) (by simp) [.int .u64 (em:Int)] 29
 have h4:=h3.at (z:=w.heap.size+3) (by simp) [.func (.func 92) #[] #[.pointer (some ⟨w.heap.size,0,none⟩),.pointer (some ⟨w.heap.size+1,0,none⟩),.pointer (some ⟨w.heap.size+2,0,none⟩)]] 213
 have hmf:∀ (fn:Fn) (first cap:Array Value) (w:World),(Instr.makeFunc fn first cap).run prog w=.ok (.func fn first cap) w:=λ_ _ _ _=>rfl
 go_enter func43,ntmps43
 go_wp2_with fail
 refine (Ai _ _ _ _).mono ?_
 rintro e w1 ⟨rfl,rfl⟩
 go_wp2
 go_ret
 exact AM.mk (X:=[_,_,_,_]) h4 (Aj.mk BM (Ad (b:=w.heap.size+3) (ADX ..) AAl (Ny (e:=⟨8,ec,ei,em,en⟩) ok hm (ADV _ (ADV _ (ADV _ (ADX ..)))) (ADV _ (ADV _ (ADX ..))) (ADV _ (ADX ..)))))
def UI (h:KX B w0 A a m S w) (ok:AI ⟨9,ec,ei,em,en⟩) (hm:m+64<=1000000):Calls prog 43 #[.pointer (some ⟨a.k,0,none⟩),.agg #[.int .i64 9,.int .i64 ec,.int .i64 ei,.int .u64 (em:Int),.int .i64 en]] w λe w'=>AM B w0 a A m (m+64) S (AF a.n S ⟨9,ec,ei,em,en⟩) e w':=by
 have h0:=h
 have h1:=h0.at (z:=w.heap.size) (by simp) [.pointer (some ⟨a.k,0,none⟩)] 23
 have h2:=h1.at (z:=w.heap.size+1) (by simp) [.int .i64 9,.int .i64 ec,.int .i64 ei,.int .u64 (em:Int),.int .i64 en] 34
 have h3:=h2.at (z:=w.heap.size+2) (by simp) [.int .u64 (em:Int)] 29
 have h4:=h3.at (z:=w.heap.size+3) (by simp) [.pointer (some ⟨a.k,0,none⟩)] 23
 have h5:=h4.at (z:=w.heap.size+4) (by simp) [.int .i64 ei] 3
 have h6:=h5.at (z:=w.heap.size+5) (by simp) [.func (.func 94) #[] #[]] 209
 have hmf:∀ (fn:Fn) (first cap:Array Value) (w:World),(Instr.makeFunc fn first cap).run prog w=.ok (.func fn first cap) w:=λ_ _ _ _=>rfl
 go_enter func43,ntmps43
 go_wp2_with fail
 refine (C9 _ _ _ _ _).mono ?_
 rintro e w1 ⟨rfl,rfl⟩
 go_wp2
 go_ret
 exact AM.mk (X:=[_,_,_,_,_,_]) h6 (Aj.mk Ib (Cn (ADV _ (ADV _ (ADX ..))) (ADV _ (ADX ..)) (ADX ..) AAm (by omega) (Nz (_bk:=0) (e:=⟨9,ec,ei,em,en⟩) ok hm )))
def TM (h:KX B w0 A a m S w) (_ok:AI ⟨30,ec,ei,em,en⟩) (hm:m+64<=1000000):Calls prog 43 #[.pointer (some ⟨a.k,0,none⟩),.agg #[.int .i64 30,.int .i64 ec,.int .i64 ei,.int .u64 (em:Int),.int .i64 en]] w λe w'=>AM B w0 a A m (m+64) S (AF a.n S ⟨30,ec,ei,em,en⟩) e w':=by
 have h0:=h
 have h1:=h0.at (z:=w.heap.size) (by simp) [.pointer (some ⟨a.k,0,none⟩)] 23
 have h2:=h1.at (z:=w.heap.size+1) (by simp) [.int .i64 30,.int .i64 ec,.int .i64 ei,.int .u64 (em:Int),.int .i64 en] 34
 have h3:=h2.at (z:=w.heap.size+2) (by simp) [.int .u64 (em:Int)] 29
 have hmf:∀ (fn:Fn) (first cap:Array Value) (w:World),(Instr.makeFunc fn first cap).run prog w=.ok (.func fn first cap) w:=λ_ _ _ _=>rfl
 go_enter func43,ntmps43
 go_wp2
 go_ret
 exact AM.mk (X:=[_,_,_]) h3 (Aj.mb AAf (λA' w s k=>(bN k (by omega)).mono λ_ _ x=>⟨x.1,x.2.more (by omega)⟩))
def TO (h:KX B w0 A a m S w) (ok:AI ⟨ek,ec,ei,em,en⟩) (hm:m+64<=1000000) (q3:¬ ek=3) (q4:¬ ek=4) (q5:¬ ek=5) (q6:¬ ek=6) (q7:¬ ek=7) (q8:¬ ek=8) (q9:¬ ek=9) (q30:¬ ek=30):Calls prog 43 #[.pointer (some ⟨a.k,0,none⟩),.agg #[.int .i64 ek,.int .i64 ec,.int .i64 ei,.int .u64 (em:Int),.int .i64 en]] w λe w'=>AM B w0 a A m (m+64) S (AF a.n S ⟨ek,ec,ei,em,en⟩) e w':=by
 have p3:(ek==3)=false:=by simpa using q3
 have p4:(ek==4)=false:=by simpa using q4
 have p5:(ek==5)=false:=by simpa using q5
 have p6:(ek==6)=false:=by simpa using q6
 have p7:(ek==7)=false:=by simpa using q7
 have p8:(ek==8)=false:=by simpa using q8
 have p9:(ek==9)=false:=by simpa using q9
 have p30:(ek==30)=false:=by simpa using q30
 have hr:AF a.n S ⟨ek,ec,ei,em,en⟩=Ab a.n S ⟨ek,ec,ei,em,en⟩:=by
  unfold AF
  simp only [q3,q4,q5,q6,q7,q8,q9,q30,AHm]
 rw [hr]
 have h0:=h
 have h1:=h0.at (z:=w.heap.size) (by simp) [.pointer (some ⟨a.k,0,none⟩)] 23
 have h2:=h1.at (z:=w.heap.size+1) (by simp) [.int .i64 ek,.int .i64 ec,.int .i64 ei,.int .u64 (em:Int),.int .i64 en] 34
 have h3:=h2.at (z:=w.heap.size+2) (by simp) [.int .u64 (em:Int)] 29
 have hmf:∀ (fn:Fn) (first cap:Array Value) (w:World),(Instr.makeFunc fn first cap).run prog w=.ok (.func fn first cap) w:=λ_ _ _ _=>rfl
 go_enter func43,ntmps43
 go_wp2_with fail
 refine (QZ h3 ok hm).mono ?_
 rintro e w1 hw1
 obtain ⟨v,X,rfl,k,c⟩:=hw1
 go_wp2
 go_ret
 exact AM.sub (Y:=[_,_,_]) (AM.mk k c)
def JV (h:KX B w0 A a m S w) (ok:AI e) (hm:m+64<=1000000):Calls prog 43 #[.pointer (some ⟨a.k,0,none⟩),.agg #[.int .i64 e.kind,.int .i64 e.cpu,.int .i64 e.id,.int .u64 (e.mask:Int),.int .i64 e.n]] w λx w'=>AM B w0 a A m (m+64) S (AF a.n S e) x w':=by
 obtain ⟨ek,ec,ei,em,en⟩:=e
 simp only
 by_cases q3:ek=3
 ·subst q3
  exact UC h ok hm
 by_cases q4:ek=4
 ·subst q4
  exact UD h ok hm
 by_cases q5:ek=5
 ·subst q5
  exact UE h ok hm
 by_cases q6:ek=6
 ·subst q6
  exact UF h ok hm
 by_cases q7:ek=7
 ·subst q7
  exact UG h ok hm
 by_cases q8:ek=8
 ·subst q8
  exact UH h ok hm
 by_cases q9:ek=9
 ·subst q9
  exact UI h ok hm
 by_cases q30:ek=30
 ·subst q30
  exact TM h ok hm
 exact TO h ok hm q3 q4 q5 q6 q7 q8 q9 q30
end
section
variable {B:Nat} {w0:World} {A:List (Nat×List Value×TypeId)} {a:KA} {m m':Nat} {S S':KS} {w w':World}
def sR (h:KX B w0 A a m S w) (_ok:AI ⟨1,ec,ei,em,en⟩) (hcp:-9223372036854775808<=Hp.Bq S.R) (hc:AJ a.n ec=true) (hm:m+64<=1000000):Calls prog 10 #[.pointer (some ⟨a.k,0,none⟩),.agg #[.int .i64 1,.int .i64 ec,.int .i64 ei,.int .u64 (em:Int),.int .i64 en]] w λx w'=>∃ v X,x=.returned v/\KX B w0 (X++A) a (m+64) (step a.n S ec).2 w'/\Rr X v (step a.n S ec).1:=by
 have h1:=h.new [.int .i64 1,.int .i64 ec,.int .i64 ei,.int .u64 (em:Int),.int .i64 en] 34
 obtain ⟨b0,b1,b2,b3,b4⟩:=Aq (b:=w.heap.size) h1.AC
 have CI:Hid (∀ _:Unit,_):=λ_=>Gf h1 ec
 rw [hc] at CI
 have CS:Hid (∀ _:Unit,_):=λ_=>AAe h1 ec hc hcp (by omega)
 go_enter func10,ntmps10
 go_wp2_with fail
 refine (CI.out ()).mono ?_
 rintro e w2 ⟨rfl,rfl⟩
 go_wp2_with fail
 refine (CS.out ()).mono ?_
 rintro e w3 ⟨v3,X3,rfl,h3,r3⟩
 go_wp2
 go_ret
 exact ⟨_,X3,rfl,(h3.sub (λy hy=>by rcases ADi.1 hy with e | e;exact AEf _ e;exact ADb _ (ADV _ e))).more (by omega),r3⟩
def sS (h:KX B w0 A a m S w) (ok:AI ⟨1,ec,ei,em,en⟩) (hc:AJ a.n ec=false) (hm:m+64<=1000000):Calls prog 10 #[.pointer (some ⟨a.k,0,none⟩),.agg #[.int .i64 1,.int .i64 ec,.int .i64 ei,.int .u64 (em:Int),.int .i64 en]] w λx w'=>∃ v X,x=.returned v/\KX B w0 (X++A) a (m+64) (([ret (AF a.n S ⟨1,ec,ei,em,en⟩).1 (AF a.n S ⟨1,ec,ei,em,en⟩).2.1],(AF a.n S ⟨1,ec,ei,em,en⟩).2.2)).2 w'/\Rr X v (([ret (AF a.n S ⟨1,ec,ei,em,en⟩).1 (AF a.n S ⟨1,ec,ei,em,en⟩).2.1],(AF a.n S ⟨1,ec,ei,em,en⟩).2.2)).1:=by
 have h1:=h.new [.int .i64 1,.int .i64 ec,.int .i64 ei,.int .u64 (em:Int),.int .i64 en] 34
 obtain ⟨b0,b1,b2,b3,b4⟩:=Aq (b:=w.heap.size) h1.AC
 have CI:Hid (∀ _:Unit,_):=λ_=>Gf h1 ec
 rw [hc] at CI
 have CT:Hid (∀ _:Unit,_):=λ_=>JV h1 ok hm
 generalize AF a.n S ⟨1,ec,ei,em,en⟩=r at *
 obtain ⟨r1,r2,T⟩:=r
 simp only at *
 go_enter func10,ntmps10
 go_wp2_with fail
 refine (CI.out ()).mono ?_
 rintro e w9 ⟨rfl,rfl⟩
 go_wp2_with fail
 refine (CT.out ()).mono ?_
 rintro e w2 ⟨v2,X2,rfl,h2,f,fs,cap,rfl,hf,hh⟩
 clear CT
 rcases hh with ⟨rfl,C⟩ | ⟨rfl,p,rfl,C⟩
 ·go_wp2_with fail
  refine (S6 h2 f cap hf C).mono ?_
  rintro e w3 ⟨rfl,h3⟩
  have h4:=(h3.Am (ret r1 r2)).1
  have h5:=(h3.Am (ret r1 r2)).2
  go_wp2
  go_ret
  exact ⟨_,_,rfl,h4.sub (λy hy=>by rcases ADi.1 hy with e | e;exact AEf _ e;exact ADb _ (ADb _ (ADV _ e))),h5⟩
 ·go_wp2_with fail
  refine (S7 h2 f p hf C).mono ?_
  rintro e w3 ⟨rfl,h3⟩
  have h4:=(h3.Am (ret r1 r2)).1
  have h5:=(h3.Am (ret r1 r2)).2
  go_wp2
  go_ret
  exact ⟨_,_,rfl,h4.sub (λy hy=>by rcases ADi.1 hy with e | e;exact AEf _ e;exact ADb _ (ADb _ (ADV _ e))),h5⟩
def sU (h:KX B w0 A a m S w) (ok:AI ⟨ek,ec,ei,em,en⟩) (q:¬ ek=1) (hm:m+64<=1000000):Calls prog 10 #[.pointer (some ⟨a.k,0,none⟩),.agg #[.int .i64 ek,.int .i64 ec,.int .i64 ei,.int .u64 (em:Int),.int .i64 en]] w λx w'=>∃ v X,x=.returned v/\KX B w0 (X++A) a (m+64) (([ret (AF a.n S ⟨ek,ec,ei,em,en⟩).1 (AF a.n S ⟨ek,ec,ei,em,en⟩).2.1],(AF a.n S ⟨ek,ec,ei,em,en⟩).2.2)).2 w'/\Rr X v (([ret (AF a.n S ⟨ek,ec,ei,em,en⟩).1 (AF a.n S ⟨ek,ec,ei,em,en⟩).2.1],(AF a.n S ⟨ek,ec,ei,em,en⟩).2.2)).1:=by
 have h1:=h.new [.int .i64 ek,.int .i64 ec,.int .i64 ei,.int .u64 (em:Int),.int .i64 en] 34
 obtain ⟨b0,b1,b2,b3,b4⟩:=Aq (b:=w.heap.size) h1.AC
 have p:(ek==1)=false:=by simpa using q
 have CT:Hid (∀ _:Unit,_):=λ_=>JV h1 ok hm
 generalize AF a.n S ⟨ek,ec,ei,em,en⟩=r at *
 obtain ⟨r1,r2,T⟩:=r
 simp only at *
 go_enter func10,ntmps10
 go_wp2_with fail
 refine (CT.out ()).mono ?_
 rintro e w2 ⟨v2,X2,rfl,h2,f,fs,cap,rfl,hf,hh⟩
 clear CT
 rcases hh with ⟨rfl,C⟩ | ⟨rfl,p,rfl,C⟩
 ·go_wp2_with fail
  refine (S6 h2 f cap hf C).mono ?_
  rintro e w3 ⟨rfl,h3⟩
  have h4:=(h3.Am (ret r1 r2)).1
  have h5:=(h3.Am (ret r1 r2)).2
  go_wp2
  go_ret
  exact ⟨_,_,rfl,h4.sub (λy hy=>by rcases ADi.1 hy with e | e;exact AEf _ e;exact ADb _ (ADb _ (ADV _ e))),h5⟩
 ·go_wp2_with fail
  refine (S7 h2 f p hf C).mono ?_
  rintro e w3 ⟨rfl,h3⟩
  have h4:=(h3.Am (ret r1 r2)).1
  have h5:=(h3.Am (ret r1 r2)).2
  go_wp2
  go_ret
  exact ⟨_,_,rfl,h4.sub (λy hy=>by rcases ADi.1 hy with e | e;exact AEf _ e;exact ADb _ (ADb _ (ADV _ e))),h5⟩
def jE (h:KX B w0 A a m S w) (ok:AI e) (hcp:-9223372036854775808<=Hp.Bq S.R) (hm:m+64<=1000000):Calls prog 10 #[.pointer (some ⟨a.k,0,none⟩),.agg #[.int .i64 e.kind,.int .i64 e.cpu,.int .i64 e.id,.int .u64 (e.mask:Int),.int .i64 e.n]] w λx w'=>∃ v X,x=.returned v/\KX B w0 (X++A) a (m+64) (KG a.n S e).2 w'/\Rr X v (KG a.n S e).1:=by
 obtain ⟨ek,ec,ei,em,en⟩:=e
 unfold KG
 simp only
 by_cases q:ek=1
 ·subst q
  cases hc:AJ a.n ec
  ·simp only [AD3,and_false,AHm]
   exact sS h ok hc hm
  ·simp only [and_self,AHn]
   exact sR h ok hcp hc hm
 ·simp only [q,false_and,AHm]
  exact sU h ok q hm
end
end Go.Proofs.YtdlhlfpigcgapaaGreatDoor.Krn

import Derived.Test.YtdlhlfpigcgapaaGreatDoorAZal
import Derived.Test.YtdlhlfpigcgapaaGreatDoorAZq
import Derived.Test.YtdlhlfpigcgapaaGreatDoorAZka
import Derived.Deep.RegionHeld
set_option maxRecDepth 100000
set_option maxHeartbeats 16000000
set_option linter.unusedVariables false
set_option linter.unusedSimpArgs false
set_option linter.defProp false
namespace Go.Proofs.YtdlhlfpigcgapaaGreatDoor.Krn
open Go.Proofs.Tryz
open Go.ChangeShapes Go.WideShapes Go.ChangeAt Go.RowKit
open Mm
variable {O:Nat->Bool} {k n x:Nat} {S:KS} {id:Int}
section
variable {B:Nat} {w0:World} {A:List (Nat×List Value×TypeId)} {a:KA} {m m':Nat} {S S':KS} {w w':World}
def lO {i:Nat} (h:Sl.ff k O=some i):i<k:=by
 have:=AEG h
 simpa using this
def ACC (p:Int) (x:Nat):0<=Tm.Gl n O p x/\Tm.Gl n O p x<=32:=by
 unfold Tm.Gl
 split
 ·cases e:Sl.ff 32 O with
  | none=>simp [Sl.tN]
  | some i=>have:=lO e;simp only [Sl.tN];omega
 ·omega
def ACD {p:Int} (q:¬ Tm.LB n S.O p x=0):QH n S p x=S:=by
 unfold QH Tm.YC Tm.RI
 unfold Tm.LB at q
 by_cases b:Tm.PI n p x=true
 ·rw [AHi b] at q
  rw [AHi b,AHi b]
  cases e:Sl.ff 32 S.O with
  | none=>rfl
  | some i=>rw [e] at q;exact absurd rfl q
 ·rw [AHh b,AHh b]
def yU (c d:Int):0<=(arm n S c d).1/\(arm n S c d).1<=48:=by
 unfold arm Tim.Yy
 split
 ·simp only
  split
  ·split
   ·cases e:Sl.ff 48 (Zm.oc n S.t) with
    | none=>simp [Sl.tN]
    | some i=>have:=lO e;simp only [Sl.tN];omega
   ·omega
  ·omega
 ·simp
def ACE (q:¬ Tm.B8 n S.O id x=0):So n S id x=S:=by
 unfold So Tm.LC
 unfold Tm.B8 at q
 rw [AHh]
 rintro ⟨h1,h2⟩
 rw [AHi h1,AHi h2] at q
 exact q rfl
def ACF (q:¬ Tm.Ax S.O S.X id=0):Sn S id=S:=by
 unfold Sn Tm.MX
 unfold Tm.Ax at q
 rw [AHh]
 rintro ⟨h1,h2⟩
 rw [AHi h1,AHi h2] at q
 exact q rfl
def ACG (q:¬ Rqu.D7 n S.q id=0):JT n S id=S:=by
 unfold JT Rqu.Jh
 unfold Rqu.D7 Rqu.Ct at q
 cases e:Rqu.AG n S.q id with
 | none=>rfl
 | some c=>rw [e] at q;exact absurd rfl q
def rM (h:KX B w0 A a m S w) (p:Int) (x:Nat) (hx:x<18446744073709551616) (hm:m<=1000000):
 Calls prog 81 #[.pointer (some ⟨a.k,0,none⟩),.int .i64 (p),.int .u64 (x:Int)] w λe w'=>e=.returned (.tuple #[.int .i64 (spawn a.n S p x).1,.int .i64 (spawn a.n S p x).2.1])/\KX B w0 A a (m+1) (spawn a.n S p x).2.2 w':=by
 unfold spawn
 have c3:=h.c3
 have C:Hid (∀ _:Unit,_):=λ_=>gR h p x hx
 have n1:(1:Int)<=a.n:=by have:=h.n1;omega
 by_cases q:Tm.LB a.n S.O p x=0
 ·simp only [AHi q]
  rw [q] at C
  have r:=ACC (n:=a.n) (O:=S.O) p x
  generalize Tm.Gl a.n S.O p x=id at *
  have hw:wf id:=K3 (by omega) (by omega)
  have hn:-9223372036854775808<=id.tmod a.n:=by
   have:=AFs (a.n:Int) r.1
   omega
  have nz:((a.n:Int)==0)=false:=by simp;omega
  have wr:IntKind.i64.wrap (id.tmod a.n)=id.tmod a.n:=by
   have h1:=AFs (a.n:Int) r.1
   have h2:id.tmod a.n<a.n:=Int.tmod_lt_of_pos id (by omega)
   have h3:=h.n2
   rw [IntKind.wrap_i64]
   omega
  generalize hz:id.tmod (a.n:Int)=z at *
  go_enter func81,ntmps81
  go_wp2_with fail
  refine (C.out ()).mono ?_
  rintro e w1 ⟨rfl,h1⟩
  go_wp2_with fail
  refine (bG h1).mono ?_
  rintro e w2 ⟨rfl,rfl⟩
  go_wp2_with fail
  refine (XL h1 id z hw hn hm).mono ?_
  rintro e w3 ⟨rfl,h3⟩
  go_wp2
  go_ret2
  exact ⟨rfl,h3⟩
 ·simp only [AHh q]
  have e0:QH a.n S p x=S:=ACD q
  rw [e0] at C
  generalize Tm.LB a.n S.O p x=y at *
  generalize Tm.Gl a.n S.O p x=id at *
  have q2:(y==0)=false:=by simpa using q
  go_enter func81,ntmps81
  go_wp2_with fail
  refine (C.out ()).mono ?_
  rintro e w1 ⟨rfl,h1⟩
  go_wp2
  go_ret2
  exact ⟨rfl,h1.more (by omega)⟩
def bH (h:KX B w0 A a m S w) (id near:Int) (hw:wf id) (hn:-9223372036854775808<=near) (hm:m<=1000000):
 Calls prog 211 #[.pointer (some ⟨a.k,0,none⟩),.int .i64 (id),.int .i64 (near)] w λe w'=>e=.returned (.int .i64 (move a.n S id near).1)/\KX B w0 A a (m+1) (move a.n S id near).2 w':=by
 unfold move
 have c4:=h.c4
 have C:Hid (∀ _:Unit,_):=λ_=>IX h id hw
 by_cases q:Rqu.D7 a.n S.q id=0
 ·simp only [AHi q]
  rw [q] at C
  go_enter func211,ntmps211
  go_wp2_with fail
  refine (C.out ()).mono ?_
  rintro e w1 ⟨rfl,h1⟩
  go_wp2_with fail
  refine (XL h1 id near hw hn hm).mono ?_
  rintro e w2 ⟨rfl,h2⟩
  go_wp2
  go_ret
  exact ⟨rfl,h2⟩
 ·simp only [AHh q]
  have e0:JT a.n S id=S:=ACG q
  rw [e0] at C
  generalize Rqu.D7 a.n S.q id=y at *
  have q2:(y==0)=false:=by simpa using q
  go_enter func211,ntmps211
  go_wp2_with fail
  refine (C.out ()).mono ?_
  rintro e w1 ⟨rfl,h1⟩
  go_wp2
  go_ret
  exact ⟨rfl,h1.more (by omega)⟩
def yV (h:KX B w0 A a m S w) (id:Int) (t:Tm.Th) (hw:wf id) (ht:wf t.timer):
 Calls prog 84 #[.pointer (some ⟨a.k,0,none⟩),.int .i64 (id),.agg #[.int .i64 t.prio,.int .u64 (t.mask:Int),.int .i64 t.cpu,.bool t.forced,.bool t.sleeps,.int .i64 t.timer]] w λe w'=>e=.returned (.int .i64 (exit a.n S id t).1)/\KX B w0 A a (m) (exit a.n S id t).2 w':=by
 unfold exit
 obtain ⟨t0,t1,t2,t3,t4,t5⟩:=t
 simp only at *
 cases t4
 ·simp only [AD3,AHm]
  have a4:∀ o,(w.alloc o).cell? ⟨a.k,4,none⟩=some (.pointer (some ⟨a.rq+2,0,none⟩)):=λo=>(h.alloc o).c4
  have h0:=h.new [.int .i64 t0,.int .u64 (t1:Int),.int .i64 t2,.bool t3,.bool false,.int .i64 t5] 138
  go_enter func84,ntmps84
  go_wp2_with fail
  refine (IX h0 id hw).mono ?_
  rintro e w1 ⟨rfl,h1⟩
  have c3:=h1.c3
  go_wp2_with fail
  refine (VX h1 id).mono ?_
  rintro e w2 ⟨rfl,h2⟩
  go_wp2
  go_ret
  exact ⟨rfl,h2.drop⟩
 ·simp only [AHn]
  have a5:∀ o,(w.alloc o).cell? ⟨a.k,5,none⟩=some (.pointer (some ⟨a.tm,0,none⟩)):=λo=>(h.alloc o).c5
  have h0:=h.new [.int .i64 t0,.int .u64 (t1:Int),.int .i64 t2,.bool t3,.bool true,.int .i64 t5] 138
  have CA:Hid (∀ u,Sm u (w.alloc (.cells #[.int .i64 t0,.int .u64 (t1:Int),.int .i64 t2,.bool t3,.bool true,.int .i64 t5] 138))->_):=λu s=>KI (h0.sm s) t5 ht
  go_enter func84,ntmps84
  go_wp2_with fail
  go_region_held3 (λw'=>w'.cell? ⟨a.k,5,none⟩=some (.pointer (some ⟨a.tm,0,none⟩))/\w'.cell? ⟨w.heap.size,5,none⟩=some (.int .i64 t5)) (go_keep)
   (first | (go_at_call 139;refine (CA.out _ ?_).mono ?_;(exact ⟨rfl,rfl,rfl,rfl⟩);rintro e w1 ⟨rfl,h1⟩;have d5:=h1.c5;have d6:w1.cell? ⟨w.heap.size,5,none⟩=some (.int .i64 t5):=h1.AC.cell 5;have c3:=h1.c3))
  go_wp2_with fail
  refine (VX h1 id).mono ?_
  rintro e w2 ⟨rfl,h2⟩
  go_wp2
  go_ret
  exact ⟨rfl,h2.drop⟩
def rN (h:KX B w0 A a m S w) (id:Int) (t:Tm.Th) (hw:wf id):
 Calls prog 86 #[.pointer (some ⟨a.k,0,none⟩),.int .i64 (id),.agg #[.int .i64 t.prio,.int .u64 (t.mask:Int),.int .i64 t.cpu,.bool t.forced,.bool t.sleeps,.int .i64 t.timer]] w λe w'=>e=.returned (.int .i64 (yield a.n S id t).1)/\KX B w0 A a (m) (yield a.n S id t).2 w':=by
 unfold yield
 obtain ⟨t0,t1,t2,t3,t4,t5⟩:=t
 simp only at *
 cases t4
 ·simp only [AD3,AHm]
  have a4:∀ o,(w.alloc o).cell? ⟨a.k,4,none⟩=some (.pointer (some ⟨a.rq+2,0,none⟩)):=λo=>(h.alloc o).c4
  have h0:=h.new [.int .i64 t0,.int .u64 (t1:Int),.int .i64 t2,.bool t3,.bool false,.int .i64 t5] 138
  go_enter func86,ntmps86
  go_wp2_with fail
  refine (qI h0 id hw).mono ?_
  rintro e w1 ⟨rfl,h1⟩
  go_wp2
  go_ret
  exact ⟨rfl,h1.drop⟩
 ·simp only [AHn]
  go_enter func86,ntmps86
  go_wp2
  go_ret
  exact ⟨rfl,h.alloc _⟩
def lP (h:KX B w0 A a m S w) (c d:Int):
 Calls prog 144 #[.pointer (some ⟨a.k,0,none⟩),.int .i64 (c),.int .i64 (d)] w λe w'=>e=.returned (.tuple #[.int .i64 (arm a.n S c d).1,.int .i64 (arm a.n S c d).2.1])/\KX B w0 A a (m) (arm a.n S c d).2.2 w':=by
 unfold arm
 have T:=h.AO
 have C:Hid (∀ _:Unit,_):=λ_=>lN h
 have L:Hid (∀ u,_):=λu=>Nq S.now d u T.1 T.2
 by_cases q:le S.now d=0
 ·simp only [AHi q]
  rw [q] at L
  generalize lv S.now d=z at *
  go_enter func144,ntmps144
  go_wp2_with fail
  refine (C.out ()).mono ?_
  rintro e w1 ⟨rfl,h1⟩
  have c5:=h1.c5
  go_wp2_with fail
  refine (L.out _).mono ?_
  rintro e w2 ⟨rfl,rfl⟩
  go_wp2_with fail
  refine (yM h1 c z).mono ?_
  rintro e w2 ⟨rfl,h2⟩
  go_wp2
  go_ret2
  exact ⟨rfl,h2⟩
 ·simp only [AHh q]
  generalize lv S.now d=z at *
  generalize le S.now d=x at *
  have q2:(x==0)=false:=by simpa using q
  go_enter func144,ntmps144
  go_wp2_with fail
  refine (C.out ()).mono ?_
  rintro e w1 ⟨rfl,h1⟩
  go_wp2_with fail
  refine (L.out _).mono ?_
  rintro e w2 ⟨rfl,rfl⟩
  go_wp2
  go_ret2
  exact ⟨rfl,h1⟩
def Vn (h:KX B w0 A a m S w) (id:Int) (t:Tm.Th) (hw:wf id) (hc:-9223372036854775808<=t.cpu) (hm:m<=1000000):
 Calls prog 146 #[.pointer (some ⟨a.k,0,none⟩),.int .i64 (id),.agg #[.int .i64 t.prio,.int .u64 (t.mask:Int),.int .i64 t.cpu,.bool t.forced,.bool t.sleeps,.int .i64 t.timer]] w λe w'=>e=.returned (.int .i64 (JC a.n S id t).1)/\KX B w0 A a (m+1) (JC a.n S id t).2 w':=by
 unfold JC
 obtain ⟨t0,t1,t2,t3,t4,t5⟩:=t
 simp only at *
 have h0:=h.new [.int .i64 t0,.int .u64 (t1:Int),.int .i64 t2,.bool t3,.bool t4,.int .i64 t5] 138
 have C:Hid (∀ _:Unit,_):=λ_=>qH h0 id
 have a3:∀ o,(w.alloc o).cell? ⟨a.k,3,none⟩=some (.pointer (some ⟨a.th+2,0,none⟩)):=λo=>(h.alloc o).c3
 by_cases q:Tm.Ax S.O S.X id=0
 ·simp only [AHi q]
  rw [q] at C
  generalize Tm.EK S.O S.X id=y at *
  go_enter func146,ntmps146
  go_wp2_with fail
  refine (C.out ()).mono ?_
  rintro e w1 ⟨rfl,h1⟩
  have d2:w1.cell? ⟨w.heap.size,2,none⟩=some (.int .i64 t2):=h1.AC.cell 2
  go_wp2_with fail
  refine (XL h1 id t2 hw hc hm).mono ?_
  rintro e w2 ⟨rfl,h2⟩
  go_wp2
  go_ret
  exact ⟨rfl,h2.drop⟩
 ·simp only [AHh q]
  have e0:Sn S id=S:=ACF q
  rw [e0] at C
  generalize Tm.EK S.O S.X id=y at *
  generalize Tm.Ax S.O S.X id=x at *
  have q2:(x==0)=false:=by simpa using q
  go_enter func146,ntmps146
  go_wp2_with fail
  refine (C.out ()).mono ?_
  rintro e w1 ⟨rfl,h1⟩
  go_wp2
  go_ret
  exact ⟨rfl,h1.drop.more (by omega)⟩
def rO (h:KX B w0 A a m S w) (id:Int) (t:Tm.Th) (hw:wf id) (ht:wf t.timer) (hc:-9223372036854775808<=t.cpu) (hm:m<=1000000):
 Calls prog 90 #[.pointer (some ⟨a.k,0,none⟩),.int .i64 (id),.agg #[.int .i64 t.prio,.int .u64 (t.mask:Int),.int .i64 t.cpu,.bool t.forced,.bool t.sleeps,.int .i64 t.timer]] w λe w'=>e=.returned (.int .i64 (G8 a.n S id t).1)/\KX B w0 A a (m+1) (G8 a.n S id t).2 w':=by
 unfold G8
 obtain ⟨t0,t1,t2,t3,t4,t5⟩:=t
 simp only at *
 cases t4
 ·simp only [AD3,AHm]
  go_enter func90,ntmps90
  go_wp2
  go_ret
  exact ⟨rfl,(h.alloc _).more (by omega)⟩
 ·simp only [AHn]
  have a5:∀ o,(w.alloc o).cell? ⟨a.k,5,none⟩=some (.pointer (some ⟨a.tm,0,none⟩)):=λo=>(h.alloc o).c5
  have h0:=h.new [.int .i64 t0,.int .u64 (t1:Int),.int .i64 t2,.bool t3,.bool true,.int .i64 t5] 138
  have CA:Hid (∀ u,Sm u (w.alloc (.cells #[.int .i64 t0,.int .u64 (t1:Int),.int .i64 t2,.bool t3,.bool true,.int .i64 t5] 138))->_):=λu s=>KI (h0.sm s) t5 ht
  go_enter func90,ntmps90
  go_wp2_with fail
  go_region_held3 (λw'=>w'.cell? ⟨a.k,5,none⟩=some (.pointer (some ⟨a.tm,0,none⟩))/\w'.cell? ⟨w.heap.size,5,none⟩=some (.int .i64 t5)) (go_keep)
   (first | (go_at_call 139;refine (CA.out _ ?_).mono ?_;(exact ⟨rfl,rfl,rfl,rfl⟩);rintro e w1 ⟨rfl,h1⟩;have d5:=h1.c5;have d60:w1.cell? ⟨w.heap.size,0,none⟩=some (.int .i64 t0):=h1.AC.cell 0;have d61:w1.cell? ⟨w.heap.size,1,none⟩=some (.int .u64 (t1:Int)):=h1.AC.cell 1;have d62:w1.cell? ⟨w.heap.size,2,none⟩=some (.int .i64 t2):=h1.AC.cell 2;have d63:w1.cell? ⟨w.heap.size,3,none⟩=some (.bool t3):=h1.AC.cell 3;have d64:w1.cell? ⟨w.heap.size,4,none⟩=some (.bool true):=h1.AC.cell 4;have d65:w1.cell? ⟨w.heap.size,5,none⟩=some (.int .i64 t5):=h1.AC.cell 5))
  go_wp2_with fail
  refine (Vn h1 id ⟨t0,t1,t2,t3,true,t5⟩ hw hc hm).mono ?_
  rintro e w2 ⟨rfl,h2⟩
  go_wp2
  go_ret
  exact ⟨rfl,h2.drop⟩
def rP (h:KX B w0 A a m S w) (id:Int) (t:Tm.Th) (d:Int) (hw:wf id):
 Calls prog 88 #[.pointer (some ⟨a.k,0,none⟩),.int .i64 (id),.agg #[.int .i64 t.prio,.int .u64 (t.mask:Int),.int .i64 t.cpu,.bool t.forced,.bool t.sleeps,.int .i64 t.timer],.int .i64 (d)] w λe w'=>e=.returned (.tuple #[.int .i64 (sleep a.n S id t d).1,.int .i64 (sleep a.n S id t d).2.1])/\KX B w0 A a (m) (sleep a.n S id t d).2.2 w':=by
 unfold sleep
 obtain ⟨t0,t1,t2,t3,t4,t5⟩:=t
 simp only at *
 cases t4
 ·simp only [AD3,AHm]
  have h0:=h.new [.int .i64 t0,.int .u64 (t1:Int),.int .i64 t2,.bool t3,.bool false,.int .i64 t5] 138
  have CH:Hid (∀ u,_):=λu=>As S.ac t2 u h.kb.2.2
  have CF:Hid (∀ u,A9 u->_):=λu k=>Dz S.ac u h.kb.2.2 k
  have TB:=h0.tab
  have CA:Hid (∀ _:Unit,_):=λ_=>lP h0 (G7 S t2) d
  have rg:=yU (n:=a.n) (S:=S) (G7 S t2) d
  have a1:∀ o,(w.alloc o).cell? ⟨a.k,1,none⟩=some (.int .u64 (S.ac:Int)):=λo=>(h.alloc o).c1
  unfold G7 at *
  cases hb:tb S.ac t2 with
  | true=>
   rw [hb] at CH CA rg
   simp only [AHn] at CA rg ⊢
   generalize arm a.n S t2 d=r at *
   obtain ⟨r1,r2,r3⟩:=r
   simp only at *
   by_cases q:r2=0
   ·subst q
    simp only [AHn]
    go_enter func88,ntmps88
    go_wp2_with fail
    refine (CH.out _).mono ?_
    rintro e w1 ⟨rfl,rfl⟩
    go_wp2_with fail
    refine (CA.out ()).mono ?_
    rintro e w1 ⟨rfl,h1⟩
    have c4:=h1.c4
    go_wp2_with fail
    refine (IX h1 id hw).mono ?_
    rintro e w2 ⟨rfl,h2⟩
    have c3:=h2.c3
    go_wp2_with fail
    refine (Su h2 id r1 rg.1 rg.2).mono ?_
    rintro e w3 ⟨rfl,h3⟩
    go_wp2
    go_ret2
    exact ⟨rfl,h3.drop⟩
   ·simp only [AHh q]
    have q2:(r2==0)=false:=by simpa using q
    go_enter func88,ntmps88
    go_wp2_with fail
    refine (CH.out _).mono ?_
    rintro e w1 ⟨rfl,rfl⟩
    go_wp2_with fail
    refine (CA.out ()).mono ?_
    rintro e w1 ⟨rfl,h1⟩
    go_wp2
    go_ret2
    exact ⟨rfl,h1.drop⟩
  | false=>
   rw [hb] at CH CA rg
   simp only [AD3,AHm] at CA rg ⊢
   generalize ((hd (ls S.ac):Nat):Int)=c at *
   generalize er (ls S.ac)=ee at *
   generalize arm a.n S c d=r at *
   obtain ⟨r1,r2,r3⟩:=r
   simp only at *
   by_cases q:r2=0
   ·subst q
    simp only [AHn]
    go_enter func88,ntmps88
    go_wp2_with fail
    refine (CH.out _).mono ?_
    rintro e w1 ⟨rfl,rfl⟩
    go_wp2_with fail
    refine (CF.out _ TB).mono ?_
    rintro e w1 ⟨rfl,rfl⟩
    go_wp2_with fail
    refine (CA.out ()).mono ?_
    rintro e w1 ⟨rfl,h1⟩
    have c4:=h1.c4
    go_wp2_with fail
    refine (IX h1 id hw).mono ?_
    rintro e w2 ⟨rfl,h2⟩
    have c3:=h2.c3
    go_wp2_with fail
    refine (Su h2 id r1 rg.1 rg.2).mono ?_
    rintro e w3 ⟨rfl,h3⟩
    go_wp2
    go_ret2
    exact ⟨rfl,h3.drop⟩
   ·simp only [AHh q]
    have q2:(r2==0)=false:=by simpa using q
    go_enter func88,ntmps88
    go_wp2_with fail
    refine (CH.out _).mono ?_
    rintro e w1 ⟨rfl,rfl⟩
    go_wp2_with fail
    refine (CF.out _ TB).mono ?_
    rintro e w1 ⟨rfl,rfl⟩
    go_wp2_with fail
    refine (CA.out ()).mono ?_
    rintro e w1 ⟨rfl,h1⟩
    go_wp2
    go_ret2
    exact ⟨rfl,h1.drop⟩
 ·simp only [AHn]
  go_enter func88,ntmps88
  go_wp2
  go_ret2
  exact ⟨rfl,h.alloc _⟩
def bI (h:KX B w0 A a m S w) (id:Int) (hw:wf id) (hm:m<=1000000):
 Calls prog 149 #[.pointer (some ⟨a.k,0,none⟩),.int .i64 (id)] w λe w'=>e=.returned (.int .i64 (JB a.n S id).1)/\KX B w0 A a (m+1) (JB a.n S id).2 w':=by
 unfold JB
 have c3:=h.c3
 have C:Hid (∀ _:Unit,_):=λ_=>Gd h id
 have g:=KH h id
 by_cases q:ER S id=0
 ·simp only [AHi q]
  rw [q] at C
  unfold item
  generalize Ao S id=t at *
  obtain ⟨t0,t1,t2,t3,t4,t5⟩:=t
  simp only at *
  have hac:=h.kb.2.2
  have ht1:=g.1
  have hc2:-9223372036854775808<=t2:=by omega
  clear g
  cases t4
  ·simp only [AD3,AHm]
   have CW:Hid (∀ u,_):=λu=>Aff.QG S.ac ⟨id,t1,t2,t3⟩ u hac ht1
   generalize hb:Aff.QF S.ac ⟨id,t1,t2,t3⟩=b at *
   cases b
   all_goals simp only [AD3,AHm,AHn]
   ·go_enter func149,ntmps149
    go_wp2_with fail
    refine (C.out ()).mono ?_
    rintro e w1 ⟨rfl,h1⟩
    have h2:=(h1.new [.int .i64 t0,.int .u64 (t1:Int),.int .i64 t2,.bool t3,.bool false,.int .i64 t5] 138).new [.int .i64 id,.int .u64 (t1:Int),.int .i64 t2,.bool t3] 291
    have hs:(w1.alloc (.cells #[.int .i64 t0,.int .u64 (t1:Int),.int .i64 t2,.bool t3,.bool false,.int .i64 t5] 138)).heap.size=w1.heap.size+1:=by simp
    rw [hs] at h2
    have a1:=h2.c1
    have n0:=h2.AC.cell 0
    have n1:=h2.AC.cell 1
    have n2:=h2.AC.cell 2
    have n3:=h2.AC.cell 3
    have n4:=h2.drop.AC.cell 4
    have n5:=h2.drop.AC.cell 2
    simp only [AEF,ADf] at n0 n1 n2 n3 n4 n5
    have CX:Hid (∀ u,Sm u ((w1.alloc (.cells #[.int .i64 t0,.int .u64 (t1:Int),.int .i64 t2,.bool t3,.bool false,.int .i64 t5] 138)).alloc (.cells #[.int .i64 id,.int .u64 (t1:Int),.int .i64 t2,.bool t3] 291))->Calls prog 210 #[.int .u64 (S.ac:Int),.agg #[.int .i64 id,.int .u64 (t1:Int),.int .i64 t2,.bool t3]] u λe w'=>e=.returned (.bool false)/\KX B w0 ((w1.heap.size+1,[.int .i64 id,.int .u64 (t1:Int),.int .i64 t2,.bool t3],291)::(w1.heap.size,[.int .i64 t0,.int .u64 (t1:Int),.int .i64 t2,.bool t3,.bool false,.int .i64 t5],138)::A) a m S w'):=λu s=>(CW.out u).mono λe w' k=>⟨k.1,(h2.sm s).below k.2⟩
    go_wp2_with fail
    go_region_held3 (λw'=>w'.cell? ⟨a.k,1,none⟩=some (.int .u64 (S.ac:Int))/\w'.cell? ⟨w1.heap.size,4,none⟩=some (.bool false)/\w'.cell? ⟨w1.heap.size+1,0,none⟩=some (.int .i64 id)/\w'.cell? ⟨w1.heap.size+1,1,none⟩=some (.int .u64 (t1:Int))/\w'.cell? ⟨w1.heap.size+1,2,none⟩=some (.int .i64 t2)/\w'.cell? ⟨w1.heap.size+1,3,none⟩=some (.bool t3)) (go_keep)
     (first | (go_at_call 210;refine (CX.out _ ?_).mono ?_;(exact ⟨rfl,rfl,rfl,rfl⟩);rintro e w2 ⟨rfl,h3⟩;have b1:=h3.c1;have m0:=h3.AC.cell 0;have m1:=h3.AC.cell 1;have m2:=h3.AC.cell 2;have m3:=h3.AC.cell 3;have m4:=h3.drop.AC.cell 4;have m5:=h3.drop.AC.cell 2;simp only [AEF,ADf] at m0 m1 m2 m3 m4 m5))
    go_wp2
    go_ret
    exact ⟨rfl,h3.drop.drop.more (by omega)⟩
   ·go_enter func149,ntmps149
    go_wp2_with fail
    refine (C.out ()).mono ?_
    rintro e w1 ⟨rfl,h1⟩
    have h2:=(h1.new [.int .i64 t0,.int .u64 (t1:Int),.int .i64 t2,.bool t3,.bool false,.int .i64 t5] 138).new [.int .i64 id,.int .u64 (t1:Int),.int .i64 t2,.bool t3] 291
    have hs:(w1.alloc (.cells #[.int .i64 t0,.int .u64 (t1:Int),.int .i64 t2,.bool t3,.bool false,.int .i64 t5] 138)).heap.size=w1.heap.size+1:=by simp
    rw [hs] at h2
    have a1:=h2.c1
    have n0:=h2.AC.cell 0
    have n1:=h2.AC.cell 1
    have n2:=h2.AC.cell 2
    have n3:=h2.AC.cell 3
    have n4:=h2.drop.AC.cell 4
    have n5:=h2.drop.AC.cell 2
    simp only [AEF,ADf] at n0 n1 n2 n3 n4 n5
    have CX:Hid (∀ u,Sm u ((w1.alloc (.cells #[.int .i64 t0,.int .u64 (t1:Int),.int .i64 t2,.bool t3,.bool false,.int .i64 t5] 138)).alloc (.cells #[.int .i64 id,.int .u64 (t1:Int),.int .i64 t2,.bool t3] 291))->Calls prog 210 #[.int .u64 (S.ac:Int),.agg #[.int .i64 id,.int .u64 (t1:Int),.int .i64 t2,.bool t3]] u λe w'=>e=.returned (.bool true)/\KX B w0 ((w1.heap.size+1,[.int .i64 id,.int .u64 (t1:Int),.int .i64 t2,.bool t3],291)::(w1.heap.size,[.int .i64 t0,.int .u64 (t1:Int),.int .i64 t2,.bool t3,.bool false,.int .i64 t5],138)::A) a m S w'):=λu s=>(CW.out u).mono λe w' k=>⟨k.1,(h2.sm s).below k.2⟩
    go_wp2_with fail
    go_region_held3 (λw'=>w'.cell? ⟨a.k,1,none⟩=some (.int .u64 (S.ac:Int))/\w'.cell? ⟨w1.heap.size,4,none⟩=some (.bool false)/\w'.cell? ⟨w1.heap.size+1,0,none⟩=some (.int .i64 id)/\w'.cell? ⟨w1.heap.size+1,1,none⟩=some (.int .u64 (t1:Int))/\w'.cell? ⟨w1.heap.size+1,2,none⟩=some (.int .i64 t2)/\w'.cell? ⟨w1.heap.size+1,3,none⟩=some (.bool t3)) (go_keep)
     (first | (go_at_call 210;refine (CX.out _ ?_).mono ?_;(exact ⟨rfl,rfl,rfl,rfl⟩);rintro e w2 ⟨rfl,h3⟩;have b1:=h3.c1;have m0:=h3.AC.cell 0;have m1:=h3.AC.cell 1;have m2:=h3.AC.cell 2;have m3:=h3.AC.cell 3;have m4:=h3.drop.AC.cell 4;have m5:=h3.drop.AC.cell 2;simp only [AEF,ADf] at m0 m1 m2 m3 m4 m5))
    go_wp2_with fail
    refine (bH h3 id t2 hw hc2 hm).mono ?_
    rintro e w3 ⟨rfl,h4⟩
    go_wp2
    go_ret
    exact ⟨rfl,h4.drop.drop⟩
  ·simp only [AHn]
   go_enter func149,ntmps149
   go_wp2_with fail
   refine (C.out ()).mono ?_
   rintro e w1 ⟨rfl,h1⟩
   go_wp2_with fail
   go_quiet (fail)
   go_wp2
   go_ret
   exact ⟨rfl,(((h1.alloc _).alloc _).drewN _).more (by omega)⟩
 ·simp only [AHh q]
  generalize ER S id=y at *
  have q2:(y==0)=false:=by simpa using q
  go_enter func149,ntmps149
  go_wp2_with fail
  refine (C.out ()).mono ?_
  rintro e w1 ⟨rfl,h1⟩
  go_wp2
  go_ret
  exact ⟨rfl,(h1.alloc _).more (by omega)⟩
def ACH (h:KX B w0 A a m S w) (id:Int) (x:Nat) (hw:wf id) (hx:x<18446744073709551616) (hm:m<=1000000):
 Calls prog 93 #[.pointer (some ⟨a.k,0,none⟩),.int .i64 (id),.int .u64 (x:Int)] w λe w'=>e=.returned (.int .i64 (QI a.n S id x).1)/\KX B w0 A a (m+1) (QI a.n S id x).2 w':=by
 unfold QI
 have c3:=h.c3
 have C:Hid (∀ _:Unit,_):=λ_=>yK h id x hx
 by_cases q:Tm.B8 a.n S.O id x=0
 ·simp only [AHi q]
  rw [q] at C
  go_enter func93,ntmps93
  go_wp2_with fail
  refine (C.out ()).mono ?_
  rintro e w1 ⟨rfl,h1⟩
  go_wp2_with fail
  refine (bI h1 id hw hm).mono ?_
  rintro e w2 ⟨rfl,h2⟩
  go_wp2
  go_ret
  exact ⟨rfl,h2⟩
 ·simp only [AHh q]
  have e0:So a.n S id x=S:=ACE q
  rw [e0] at C
  generalize Tm.B8 a.n S.O id x=y at *
  have q2:(y==0)=false:=by simpa using q
  go_enter func93,ntmps93
  go_wp2_with fail
  refine (C.out ()).mono ?_
  rintro e w1 ⟨rfl,h1⟩
  go_wp2
  go_ret
  exact ⟨rfl,h1.more (by omega)⟩
end
section
variable {B:Nat} {w0:World} {A:List (Nat×List Value×TypeId)} {a:KA} {m m':Nat} {S S':KS} {w w':World}
def bJ (k:Nat) (O:Nat->Bool):(Sl.li k O).length<=k:=by
 unfold Sl.li
 rw [ADz]
 have:=ADq (λi=>O (i+1)) (List.range k)
 simpa using this
def MF (L:List Int) (f:Int->Bool):∀ k,k<L.length->(∀ j,j<k->f (L.getD j 0)=false)->f (L.getD k 0)=true->L.find? f=some (L.getD k 0):=by
 induction L with
 | nil=>intro k hk;simp at hk
 | cons x L ih=>
  intro k hk no q
  cases k with
  | zero=>
   simp only [List.getD_cons_zero] at q ⊢
   rw [List.find?_cons_of_pos q]
  | succ k=>
   have h0:=no 0 (by omega)
   simp only [List.getD_cons_zero] at h0
   simp only [AFy] at q ⊢
   rw [List.find?_cons_of_neg (by simp [h0])]
   exact ih k (by simpa using hk) (λj hj=>by have:=no (j+1) (by omega);simpa using this) q
def QL (L:List Int) (f:Int->Bool) (h:∀ j,j<L.length->f (L.getD j 0)=false):L.find? f=none:=by
 rw [ADw]
 intro x hx
 obtain ⟨j,hj,e⟩:=List.getElem_of_mem hx
 have:=h j hj
 rw [ADY,ADZ hj,AEc,e] at this
 simp [this]
def bK (h:KX B w0 A a m S w) (k:Int):(Bm.Cc S.i k).bs<18446744073709551616:=by
 unfold Bm.Cc
 split
 ·exact h.oki _
 ·simp [Bm.zi]
def ACI (h:KX B w0 A a m S w) (k:Int):0<=Nm.FW S.r k/\Nm.FW S.r k<a.n:=by
 obtain ⟨F,K,_⟩:=h.ex
 obtain ⟨t,_⟩:=K.p 5 (by omega)
 have:=h.n1
 unfold Nm.FW Nm.cp
 split
 ·rename_i e
  simp only [Nm.is,decide_eq_true_eq] at e
  have:=t.ok k.toNat (by omega)
  split
  ·omega
  ·omega
 ·omega
def ACJ {X:Nat->Bm.Iq} {k:Int} (q:Bm.EA n X k x=0):0<=k/\k<16:=by
 unfold Bm.EA at q
 split at q
 ·rename_i e
  simp only [Bm.is,decide_eq_true_eq] at e
  exact e
 ·simp at q
def ACK {k:Int} (q:¬ Bm.EA n S.i k x=0):Sq n S k x=S:=by
 unfold Sq Bm.A7
 rw [AHh q]
def Vo (h:KX B w0 A a m S w) (x:Int):
 Calls prog 194 #[.pointer (some ⟨a.k,0,none⟩),.int .i64 (x)] w λe w'=>e=.returned (.int .i64 (own S x))/\KX B w0 A a m S w':=by
 have c3:=h.c3
 have CA:Hid (∀ _:Unit,_):=λ_=>K8 a w
 have CL:Hid (∀ _:Unit,_):=λ_=>VY h
 have LN:((Sl.li 32 S.O).length:Int)<=32:=by have:=bJ 32 S.O;omega
 obtain ⟨f,hf⟩:∃ f:Int->Bool,Hid (∀ id,f id=((Ao S id).sleeps&&(Ao S id).timer==x)):=⟨_,λ_=>rfl⟩
 have e0:own S x=((Sl.li 32 S.O).find? f).getD 0:=by
  unfold own
  rw [show f=λid=>((Ao S id).sleeps&&(Ao S id).timer==x) from funext hf.out]
 rw [e0]
 clear e0
 generalize Sl.li 32 S.O=L at *
 obtain ⟨R,hR⟩:∃ R:Int,Hid (R=(L.find? f).getD 0):=⟨_,rfl⟩
 rw [<- show R=(L.find? f).getD 0 from hR.out]
 go_enter func194,ntmps194
 go_wp2_with fail
 refine (CA.out ()).mono ?_
 rintro e w1 ⟨rfl,rfl⟩
 go_wp2_with fail
 refine (CL.out ()).mono ?_
 rintro e w1 ⟨v,Z,rfl,h1,rw1⟩
 obtain ⟨p,cap,rfl⟩:=rw1.shape
 go_wp2
 go_loopw [18] (λi wr=>∃ k:Nat,(k:Int)<=L.length/\i=.int .i64 (k:Int)/\KX B w0 (Z++A) a m S wr/\Hid (∀ j,j<k->f (L.getD j 0)=false)) (λi _=>L.length-(intOf i).toNat)
 case atStart=>exact ⟨0,by omega,rfl,h1,λj hj=>by omega⟩
 case round=>
  obtain ⟨k,hk,rfl,hr,no⟩:=hrel
  by_cases c:(k:Int)<L.length
  ·obtain ⟨b,rfl,ck⟩:=rw1.cell hr (i:=k) (by omega)
   have G:Hid (∀ _:Unit,_):=λ_=>Gd hr (L.getD k 0)
   have fk:=hf.out (L.getD k 0)
   have NX:Hid (f (L.getD k 0)=false->∀ j,j<k+1->f (L.getD j 0)=false):=λq j hj=>by
    by_cases e:j=k
    ·rw [e];exact q
    ·exact no.out j (by omega)
   have HT:Hid (f (L.getD k 0)=true->R=L.getD k 0):=λq=>by
    rw [hR.out,MF L f k (by omega) no.out q]
    rfl
   generalize L.getD k 0=id at *
   generalize Ao S id=t at *
   generalize ER S id=ee at *
   obtain ⟨t0,t1,t2,t3,t4,t5⟩:=t
   simp only at *
   generalize f id=fb at *
   cases t4
   ·simp only [AEm] at fk
    subst fk
    go_wp2_with fail
    refine (G.out ()).mono ?_
    rintro e w2 ⟨rfl,h2⟩
    go_wp2
    go_roundw
    case rel=>exact ⟨k+1,by omega,by go_num,h2.alloc _,NX.out (by simp)⟩
    case measure=>simp [intOf];omega
   ·simp only [AEC] at fk
    by_cases e5:t5=x
    ·have q5:(t5==x)=true:=by simpa using e5
     rw [q5] at fk
     subst fk
     have HT2:=HT.out rfl
     clear HT NX
     subst HT2
     go_wp2_with fail
     refine (G.out ()).mono ?_
     rintro e w2 ⟨rfl,h2⟩
     go_wp2
     go_ret
     exact ⟨rfl,(h2.alloc _).sub λy hy=>ADb _ hy⟩
    ·have q5:(t5==x)=false:=by simpa using e5
     rw [q5] at fk
     subst fk
     go_wp2_with fail
     refine (G.out ()).mono ?_
     rintro e w2 ⟨rfl,h2⟩
     go_wp2
     go_roundw
     case rel=>exact ⟨k+1,by omega,by go_num,h2.alloc _,NX.out (by simp)⟩
     case measure=>simp [intOf];omega
  ·have e1:k=L.length:=by omega
   have R0:R=0:=by
    rw [hR.out,QL L f (λj hj=>no.out j (by omega))]
    rfl
   clear hR
   subst R0
   subst e1
   go_wp2
   go_ret
   exact ⟨rfl,hr.sub λy hy=>ADb _ hy⟩
def iE (h:KX B w0 A a m S w) (id:Int) (hw:wf id):
 Calls prog 159 #[.pointer (some ⟨a.k,0,none⟩),.int .i64 (id)] w λe w'=>e=.returned (.int .i64 (cancel a.n S id).1)/\KX B w0 A a (m) (cancel a.n S id).2 w':=by
 unfold cancel
 have C:Hid (∀ _:Unit,_):=λ_=>Vo h id
 by_cases q:own S id=0
 ·simp only [AHi q]
  rw [q] at C
  go_enter func159,ntmps159
  go_wp2_with fail
  refine (C.out ()).mono ?_
  rintro e w1 ⟨rfl,h1⟩
  have c5:=h1.c5
  go_wp2_with fail
  refine (KI h1 id hw).mono ?_
  rintro e w2 ⟨rfl,h2⟩
  go_wp2
  go_ret
  exact ⟨rfl,h2⟩
 ·simp only [AHh q]
  generalize own S id=y at *
  have q2:(y==0)=false:=by simpa using q
  go_enter func159,ntmps159
  go_wp2_with fail
  refine (C.out ()).mono ?_
  rintro e w1 ⟨rfl,h1⟩
  go_wp2
  go_ret
  exact ⟨rfl,h1⟩
def Sy (h:KX B w0 A a m S w) (k near:Int) (hn:-9223372036854775808<=near):
 Calls prog 222 #[.pointer (some ⟨a.k,0,none⟩),.int .i64 (k),.int .i64 (near)] w λe w'=>e=.returned (.int .i64 (send a.n S k near).1)/\KX B w0 A a (m) (send a.n S k near).2 w':=by
 unfold send Sp
 have c6:=h.c6
 have C:Hid (∀ _:Unit,_):=λ_=>bC h k
 have g:=bK h k
 by_cases q:Bm.FV k=0
 ·simp only [AHi q]
  rw [q] at C
  generalize Bm.Cc S.i k=t at *
  obtain ⟨t0,t1,t2,t3⟩:=t
  simp only at *
  go_enter func222,ntmps222
  go_wp2_with fail
  refine (C.out ()).mono ?_
  rintro e w1 ⟨rfl,h1⟩
  have h2:=h1.new [.bool t0,.bool t1,.bool t2,.int .u64 (t3:Int)] 156
  have c7:=h2.c7
  go_wp2_with fail
  refine (Vl h2 t3 near g hn).mono ?_
  rintro e w2 ⟨rfl,rfl⟩
  go_wp2_with fail
  refine (ND h2 k _).mono ?_
  rintro e w3 ⟨rfl,h3⟩
  go_wp2
  go_ret
  exact ⟨rfl,h3.drop⟩
 ·simp only [AHh q]
  generalize Bm.FV k=y at *
  have q2:(y==0)=false:=by simpa using q
  go_enter func222,ntmps222
  go_wp2_with fail
  refine (C.out ()).mono ?_
  rintro e w1 ⟨rfl,h1⟩
  go_wp2
  go_ret
  exact ⟨rfl,h1.alloc _⟩
def bL (h:KX B w0 A a m S w) (k:Int) (x:Nat) (hx:x<18446744073709551616):
 Calls prog 161 #[.pointer (some ⟨a.k,0,none⟩),.int .i64 (k),.int .u64 (x:Int)] w λe w'=>e=.returned (.int .i64 (request a.n S k x).1)/\KX B w0 A a (m) (request a.n S k x).2 w':=by
 unfold request
 have c6:=h.c6
 have C:Hid (∀ _:Unit,_):=λ_=>XH h k x hx
 by_cases q:Bm.EA a.n S.i k x=0
 ·simp only [AHi q]
  have kr:=ACJ q
  rw [q] at C
  have n1:=h.n1
  have n2:=h.n2
  have hn:-9223372036854775808<=k.tmod a.n:=by
   have:=AFs (a.n:Int) kr.1
   omega
  have nz:((a.n:Int)==0)=false:=by simp;omega
  have wr:IntKind.i64.wrap (k.tmod a.n)=k.tmod a.n:=by
   have h1:=AFs (a.n:Int) kr.1
   have h2:k.tmod a.n<a.n:=Int.tmod_lt_of_pos k (by omega)
   rw [IntKind.wrap_i64]
   omega
  generalize hz:k.tmod (a.n:Int)=z at *
  go_enter func161,ntmps161
  go_wp2_with fail
  refine (C.out ()).mono ?_
  rintro e w1 ⟨rfl,h1⟩
  go_wp2_with fail
  refine (bG h1).mono ?_
  rintro e w2 ⟨rfl,rfl⟩
  go_wp2_with fail
  refine (Sy h1 k z hn).mono ?_
  rintro e w3 ⟨rfl,h3⟩
  go_wp2
  go_ret
  exact ⟨rfl,h3⟩
 ·simp only [AHh q]
  have e0:Sq a.n S k x=S:=ACK q
  rw [e0] at C
  generalize Bm.EA a.n S.i k x=y at *
  have q2:(y==0)=false:=by simpa using q
  go_enter func161,ntmps161
  go_wp2_with fail
  refine (C.out ()).mono ?_
  rintro e w1 ⟨rfl,h1⟩
  go_wp2
  go_ret
  exact ⟨rfl,h1⟩
def yW (h:KX B w0 A a m S w) (k:Int):
 Calls prog 163 #[.pointer (some ⟨a.k,0,none⟩),.int .i64 (k)] w λe w'=>e=.returned (.int .i64 (free S k).1)/\KX B w0 A a (m) (free S k).2 w':=by
 unfold free
 have c6:=h.c6
 have C:Hid (∀ _:Unit,_):=λ_=>qN h k
 by_cases q:Bm.Aa S.i k=0
 ·simp only [AHi q]
  rw [q] at C
  go_enter func163,ntmps163
  go_wp2_with fail
  refine (C.out ()).mono ?_
  rintro e w1 ⟨rfl,h1⟩
  have c7:=h1.c7
  go_wp2_with fail
  refine (yP h1 k).mono ?_
  rintro e w2 ⟨rfl,h2⟩
  go_wp2
  go_ret
  rw [q]
  exact ⟨rfl,h2⟩
 ·simp only [AHh q]
  have e0:({ S with i:=Bm.A7 (Bm.Aa S.i k) S.i k Bm.zi }:KS)=S:=by unfold Bm.A7;rw [AHh q]
  rw [e0] at C
  generalize Bm.Aa S.i k=y at *
  have q2:(y==0)=false:=by simpa using q
  go_enter func163,ntmps163
  go_wp2_with fail
  refine (C.out ()).mono ?_
  rintro e w1 ⟨rfl,h1⟩
  go_wp2
  go_ret
  exact ⟨rfl,h1⟩
def rQ (h:KX B w0 A a m S w) (id:Int) (hw:wf id):
 Calls prog 231 #[.pointer (some ⟨a.k,0,none⟩),.int .i64 (id)] w λe w'=>e=.returned (.tuple #[.int .i64 (flush S id).1,.int .i64 (flush S id).2])/\KX B w0 A a m S w':=by
 unfold flush
 have c8:=h.c8
 have C:Hid (∀ _:Unit,_):=λ_=>yQ h id hw
 by_cases q1:id<1
 ·simp only [AHi (Or.inl q1:id<1\/32<id)]
  go_enter func231,ntmps231
  go_wp2
  go_ret2
  exact ⟨rfl,h⟩
 ·by_cases q2:32<id
  ·simp only [AHi (Or.inr q2:id<1\/32<id)]
   go_enter func231,ntmps231
   go_wp2
   go_ret2
   exact ⟨rfl,h⟩
  ·simp only [AHh (show ¬ (id<1\/32<id) by omega)]
   generalize Cm.JK S.wk id=b at *
   cases b
   all_goals simp only [AD3,AHm,AHn]
   all_goals (
    go_enter func231,ntmps231
    go_wp2_with fail
    refine (C.out ()).mono ?_
    rintro e w1 ⟨rfl,h1⟩
    go_wp2
    go_ret2
    exact ⟨rfl,h1⟩)
def QM (h:KX B w0 A a m S w) (k:Int):
 Calls prog 226 #[.pointer (some ⟨a.k,0,none⟩),.int .i64 (k)] w λe w'=>e=.returned (.int .i64 (Du a.n S k).1)/\KX B w0 A a (m) (Du a.n S k).2 w':=by
 unfold Du
 have c6:=h.c6
 have C:Hid (∀ _:Unit,_):=λ_=>bC h k
 have g:=bK h k
 by_cases q:Bm.FV k=0
 ·simp only [AHi q]
  rw [q] at C
  have hac:=h.kb.2.2
  have hof:=ACI (S:=S) h k
  unfold lH
  generalize Bm.Cc S.i k=t at *
  obtain ⟨t0,t1,t2,t3⟩:=t
  simp only at *
  have OF:Hid (∀ u:World,KX B w0 ((u.heap.size,[.bool t0,.bool t1,.bool t2,.int .u64 (t3:Int)],156)::A) a m S (u.alloc (.cells #[.bool t0,.bool t1,.bool t2,.int .u64 (t3:Int)] 156))->_):=λu h=>ABy h k
  have CH:Hid (∀ u,_):=λu=>As t3 (Nm.FW S.r k) u g
  have CW:Hid (∀ u,_):=λu=>Aff.QG S.ac ⟨k,t3,Nm.FW S.r k,!tb t3 (Nm.FW S.r k)⟩ u hac g
  generalize Nm.FW S.r k=c at *
  generalize Nm.Rs S.r k=ob at *
  generalize hb:tb t3 c=tv at *
  have hn:-9223372036854775808<=c:=by omega
  generalize Aff.QF S.ac ⟨k,t3,c,!tv⟩=bb at *
  cases bb
  ·simp only [AD3,AHm]
   go_enter func226,ntmps226
   go_wp2_with fail
   refine (C.out ()).mono ?_
   rintro e w1 ⟨rfl,h1⟩
   have h2:=h1.new [.bool t0,.bool t1,.bool t2,.int .u64 (t3:Int)] 156
   have c7:=h2.c7
   go_wp2_with fail
   refine (OF.out _ h2).mono ?_
   rintro e w3 ⟨rfl,h3⟩
   have d3:w3.cell? ⟨w1.heap.size,3,none⟩=some (.int .u64 (t3:Int)):=h3.AC.cell 3
   go_wp2_with fail
   go_region_held3 (λw'=>w'.cell? ⟨w1.heap.size,3,none⟩=some (.int .u64 (t3:Int))) (go_keep)
    (first | (go_at_call 12;refine (CH.out _).mono ?_;rintro e w4 ⟨rfl,rfl⟩))
   all_goals (
    have h4:=(h3.new [.int .i64 k,.int .u64 (t3:Int),.int .i64 c,.bool (!tv)] 291).drew
    have a1:=h4.c1
    have n0:=h4.AC.cell 0
    have n1:=h4.AC.cell 1
    have n2:=h4.AC.cell 2
    have n3:=h4.AC.cell 3
    simp only [AEF,ADf] at n0 n1 n2 n3
    have CX:Hid (∀ u,Sm u ((w3.alloc (.cells #[.int .i64 k,.int .u64 (t3:Int),.int .i64 c,.bool (!tv)] 291)).drew)->Calls prog 210 #[.int .u64 (S.ac:Int),.agg #[.int .i64 k,.int .u64 (t3:Int),.int .i64 c,.bool (!tv)]] u λe w'=>e=.returned (.bool false)/\KX B w0 ((w3.heap.size,[.int .i64 k,.int .u64 (t3:Int),.int .i64 c,.bool (!tv)],291)::(w1.heap.size,[.bool t0,.bool t1,.bool t2,.int .u64 (t3:Int)],156)::A) a m S w'):=λu s=>(CW.out u).mono λe w' k=>⟨k.1,(h4.sm s).below k.2⟩
    go_wp2_with fail
    go_region_held3 (λw'=>w'.cell? ⟨a.k,1,none⟩=some (.int .u64 (S.ac:Int))/\w'.cell? ⟨w3.heap.size,0,none⟩=some (.int .i64 k)/\w'.cell? ⟨w3.heap.size,1,none⟩=some (.int .u64 (t3:Int))/\w'.cell? ⟨w3.heap.size,2,none⟩=some (.int .i64 c)/\w'.cell? ⟨w3.heap.size,3,none⟩=some (.bool (!tv))) (go_keep)
     (first | (go_at_call 210;refine (CX.out _ ?_).mono ?_;(exact ⟨rfl,rfl,rfl,rfl⟩);rintro e w5 ⟨rfl,h5⟩;have b1:=h5.c1;have m0:=h5.AC.cell 0;have m1:=h5.AC.cell 1;have m2:=h5.AC.cell 2;have m3:=h5.AC.cell 3;simp only [AEF,ADf] at m0 m1 m2 m3))
    go_wp2
    go_ret
    exact ⟨rfl,h5.drop.drop⟩)
  ·simp only [AHn]
   go_enter func226,ntmps226
   go_wp2_with fail
   refine (C.out ()).mono ?_
   rintro e w1 ⟨rfl,h1⟩
   have h2:=h1.new [.bool t0,.bool t1,.bool t2,.int .u64 (t3:Int)] 156
   have c7:=h2.c7
   go_wp2_with fail
   refine (OF.out _ h2).mono ?_
   rintro e w3 ⟨rfl,h3⟩
   have d3:w3.cell? ⟨w1.heap.size,3,none⟩=some (.int .u64 (t3:Int)):=h3.AC.cell 3
   go_wp2_with fail
   go_region_held3 (λw'=>w'.cell? ⟨w1.heap.size,3,none⟩=some (.int .u64 (t3:Int))) (go_keep)
    (first | (go_at_call 12;refine (CH.out _).mono ?_;rintro e w4 ⟨rfl,rfl⟩))
   all_goals (
    have h4:=(h3.new [.int .i64 k,.int .u64 (t3:Int),.int .i64 c,.bool (!tv)] 291).drew
    have a1:=h4.c1
    have n0:=h4.AC.cell 0
    have n1:=h4.AC.cell 1
    have n2:=h4.AC.cell 2
    have n3:=h4.AC.cell 3
    simp only [AEF,ADf] at n0 n1 n2 n3
    have CX:Hid (∀ u,Sm u ((w3.alloc (.cells #[.int .i64 k,.int .u64 (t3:Int),.int .i64 c,.bool (!tv)] 291)).drew)->Calls prog 210 #[.int .u64 (S.ac:Int),.agg #[.int .i64 k,.int .u64 (t3:Int),.int .i64 c,.bool (!tv)]] u λe w'=>e=.returned (.bool true)/\KX B w0 ((w3.heap.size,[.int .i64 k,.int .u64 (t3:Int),.int .i64 c,.bool (!tv)],291)::(w1.heap.size,[.bool t0,.bool t1,.bool t2,.int .u64 (t3:Int)],156)::A) a m S w'):=λu s=>(CW.out u).mono λe w' k=>⟨k.1,(h4.sm s).below k.2⟩
    go_wp2_with fail
    go_region_held3 (λw'=>w'.cell? ⟨a.k,1,none⟩=some (.int .u64 (S.ac:Int))/\w'.cell? ⟨w3.heap.size,0,none⟩=some (.int .i64 k)/\w'.cell? ⟨w3.heap.size,1,none⟩=some (.int .u64 (t3:Int))/\w'.cell? ⟨w3.heap.size,2,none⟩=some (.int .i64 c)/\w'.cell? ⟨w3.heap.size,3,none⟩=some (.bool (!tv))) (go_keep)
     (first | (go_at_call 210;refine (CX.out _ ?_).mono ?_;(exact ⟨rfl,rfl,rfl,rfl⟩);rintro e w5 ⟨rfl,h5⟩;have b1:=h5.c1;have m0:=h5.AC.cell 0;have m1:=h5.AC.cell 1;have m2:=h5.AC.cell 2;have m3:=h5.AC.cell 3;simp only [AEF,ADf] at m0 m1 m2 m3))
    go_wp2_with fail
    refine (Sy h5 k c hn).mono ?_
    rintro e w6 ⟨rfl,h6⟩
    go_wp2
    go_ret
    exact ⟨rfl,h6.drop.drop⟩)
 ·simp only [AHh q]
  generalize Bm.FV k=y at *
  have q2:(y==0)=false:=by simpa using q
  go_enter func226,ntmps226
  go_wp2_with fail
  refine (C.out ()).mono ?_
  rintro e w1 ⟨rfl,h1⟩
  go_wp2
  go_ret
  exact ⟨rfl,h1.alloc _⟩
def iF (h:KX B w0 A a m S w) (k:Int) (x:Nat) (hx:x<18446744073709551616):
 Calls prog 165 #[.pointer (some ⟨a.k,0,none⟩),.int .i64 (k),.int .u64 (x:Int)] w λe w'=>e=.returned (.int .i64 (FD a.n S k x).1)/\KX B w0 A a (m) (FD a.n S k x).2 w':=by
 unfold FD
 have c6:=h.c6
 have C:Hid (∀ _:Unit,_):=λ_=>yO h k x hx
 by_cases q:Bm.B8 a.n S.i k x=0
 ·simp only [AHi q]
  rw [q] at C
  go_enter func165,ntmps165
  go_wp2_with fail
  refine (C.out ()).mono ?_
  rintro e w1 ⟨rfl,h1⟩
  go_wp2_with fail
  refine (QM h1 k).mono ?_
  rintro e w2 ⟨rfl,h2⟩
  go_wp2
  go_ret
  exact ⟨rfl,h2⟩
 ·simp only [AHh q]
  have e0:VW a.n S k x=S:=by unfold VW Bm.A7;rw [AHh q]
  rw [e0] at C
  generalize Bm.B8 a.n S.i k x=y at *
  have q2:(y==0)=false:=by simpa using q
  go_enter func165,ntmps165
  go_wp2_with fail
  refine (C.out ()).mono ?_
  rintro e w1 ⟨rfl,h1⟩
  go_wp2
  go_ret
  exact ⟨rfl,h1⟩
end
section
variable {B:Nat} {w0:World} {A:List (Nat×List Value×TypeId)} {a:KA} {m m':Nat} {S S':KS} {w w':World}
def Vp {X:Qm.AK} {id:Int}:∀ {k:Nat},id∈Qm.Cd X k->id∈Qm.ids X
 | 0,h=>by simp [Qm.Cd] at h
 | k+1,h=>by
  rw [Qm.Cd,ADi] at h
  rcases h with h | h
  ·exact Vp h
  ·have:=(Qm.D3 _ _ _).1 h
   exact AE6.2 ⟨_,this,rfl⟩
def bM (L:List Int) (f:Int->Bool) (k:Nat) (hk:k<L.length) (no:∀ j,k<j->j<L.length->f (L.getD j 0)=false) (q:f (L.getD k 0)=true):L.reverse.find? f=some (L.getD k 0):=by
 have g:∀ j,j<L.length->L.reverse.getD j 0=L.getD (L.length-1-j) 0:=λj hj=>by
  rw [ADY,List.getElem?_reverse hj,ADY]
 have e:=g (L.length-1-k) (by omega)
 rw [show L.length-1-(L.length-1-k)=k by omega] at e
 have:=MF L.reverse f (L.length-1-k) (by rw [List.length_reverse];omega) (λj hj=>by rw [g j (by omega)];exact no _ (by omega) (by omega)) (by rw [e];exact q)
 rw [this,e]
def XM (L:List Int) (f:Int->Bool) (no:∀ j,j<L.length->f (L.getD j 0)=false):L.reverse.find? f=none:=by
 rw [ADw]
 intro x hx
 obtain ⟨j,hj,e⟩:=List.getElem_of_mem (List.mem_reverse.1 hx)
 have:=no j hj
 rw [ADY,ADZ hj,AEc,e] at this
 simp [this]
def lQ (h:KX B w0 A a m S w) (c:Int):0<=Rqu.Bs a.n S.q c/\Rqu.Bs a.n S.q c<=32:=by
 obtain ⟨F,K,_⟩:=h.ex
 obtain ⟨t,_⟩:=K.p 2 (by omega)
 unfold Rqu.Bs
 split
 ·rename_i e
  have:=(t.al.ok c.toNat (by have:=e.1;have:=e.2;omega)).le
  omega
 ·omega
def iG (h:KX B w0 A a m S w) (c:Int):(Rqu.GD a.n S.q c).length<=32:=by
 obtain ⟨F,K,_⟩:=h.ex
 obtain ⟨t,_⟩:=K.p 2 (by omega)
 unfold Rqu.GD
 split
 ·rename_i e
  have o:=t.al.ok c.toNat (by have:=e.1;have:=e.2;omega)
  have:=o.le
  rw [Qm.OU o.rg]
  omega
 ·simp
def Vq (h:KX B w0 A a m S w) (c:Int):∀ id∈Rqu.GD a.n S.q c,wf id:=by
 obtain ⟨F,K,_⟩:=h.ex
 obtain ⟨t,_⟩:=K.p 2 (by omega)
 unfold Rqu.GD
 split
 ·rename_i e
  intro id hid
  exact t.al.wf c.toNat (by have:=e.1;have:=e.2;omega) id (Vp hid)
 ·intro id hid;simp at hid
def bN (h:KX B w0 A a m S w) (hm:m<=1000000):
 Calls prog 95 #[.pointer (some ⟨a.k,0,none⟩)] w λe w'=>e=.returned (.tuple #[.int .i64 (balance a.n S).1,.int .i64 (balance a.n S).2.1])/\KX B w0 A a (m+1) (balance a.n S).2.2 w':=by
 unfold balance
 have c1:=h.c1
 have c4:=h.c4
 have CB:Hid (∀ u,Sm u w->_):=λu s=>XG (h.sm s)
 by_cases q:Rqb.E1 (Rqb.bc S.ac a.n)=0
 ·simp only [AHi q]
  have CI:Hid (∀ u,KX B w0 A a m S u->_):=λu s=>bA s
  have L1:Hid (∀ u,KX B w0 A a m S u->_):=λu s=>K4 s (Db a.n S)
  have L2:Hid (∀ u,KX B w0 A a m S u->_):=λu s=>K4 s (QJ a.n S)
  have CL:Hid (∀ u,KX B w0 A a m S u->_):=λu s=>VZ s (Db a.n S)
  have b1:=lQ h (Db a.n S)
  have b2:=lQ h (QJ a.n S)
  have LN:=iG h (Db a.n S)
  have LW:=Vq h (Db a.n S)
  rw [q] at CB CI
  generalize hx:Rqu.Bs a.n S.q (Db a.n S)=x at *
  generalize hy:Rqu.Bs a.n S.q (QJ a.n S)=y at *
  have wr:IntKind.i64.wrap (x-y)=x-y:=by rw [IntKind.wrap_i64];omega
  unfold yI
  generalize Rqu.GD a.n S.q (Db a.n S)=L at *
  generalize Db a.n S=fr at *
  generalize QJ a.n S=tc at *
  clear hx hy
  by_cases q2:x-y<2
  ·simp only [AHi q2]
   have q3:decide (x-y<2)=true:=AHj q2
   go_enter func95,ntmps95
   go_wp2_with fail
   go_region_held3 (λw'=>w'.cell? ⟨a.k,1,none⟩=some (.int .u64 (S.ac:Int))/\w'.cell? ⟨a.k,4,none⟩=some (.pointer (some ⟨a.rq+2,0,none⟩))) (go_keep)
    (first | (go_at_call 150;refine (CB.out _ ?_).mono ?_;(exact ⟨rfl,rfl,rfl,rfl⟩);rintro e w1 ⟨rfl,h1⟩;have d1:=h1.c1;have d4:=h1.c4))
   go_wp2_with fail
   go_region_held3 (λw'=>w'.cell? ⟨a.k,1,none⟩=some (.int .u64 (S.ac:Int))/\w'.cell? ⟨a.k,4,none⟩=some (.pointer (some ⟨a.rq+2,0,none⟩))) (go_keep)
    (first | (go_at_call 151;refine (CI.out _ ?_).mono ?_;(exact h1.sm ⟨rfl,rfl,rfl,rfl⟩);rintro e w2 ⟨rfl,h2⟩;have f1:=h2.c1;have f4:=h2.c4))
   go_wp2_with fail
   go_region_held3 (λw'=>w'.cell? ⟨a.k,4,none⟩=some (.pointer (some ⟨a.rq+2,0,none⟩))) (go_keep)
    (first | (go_at_call 50;refine (L1.out _ ?_).mono ?_;(exact h2.sm ⟨rfl,rfl,rfl,rfl⟩);rintro e w3 ⟨rfl,h3⟩;clear L1;have g4:=h3.c4) | (go_at_call 50;refine (L2.out _ ?_).mono ?_;(exact h3.sm ⟨rfl,rfl,rfl,rfl⟩);rintro e w4 ⟨rfl,h4⟩;have g5:=h4.c4))
   go_wp2
   go_ret2
   exact ⟨rfl,h4.more (by omega)⟩
  ·simp only [AHh q2]
   obtain ⟨f,hf⟩:∃ f:Int->Bool,Hid (∀ id,f id=tb (Ao S id).mask tc):=⟨_,λ_=>rfl⟩
   rw [show (λid=>tb (Ao S id).mask tc)=f from (funext hf.out).symm]
   obtain ⟨r,hr⟩:∃ r:Int×Int×KS,Hid (r=XC a.n S tc (L.reverse.find? f)):=⟨_,rfl⟩
   rw [<- show r=XC a.n S tc (L.reverse.find? f) from hr.out]
   have LN2:(L.length:Int)<=32:=by omega
   have w1L:IntKind.i64.wrap ((L.length:Int)-1)=(L.length:Int)-1:=by rw [IntKind.wrap_i64];omega
   have q3:decide (x-y<2)=false:=AHk q2
   obtain ⟨r1,r2,r3⟩:=r
   simp only at *
   go_enter func95,ntmps95
   go_wp2_with fail
   go_region_held3 (λw'=>w'.cell? ⟨a.k,1,none⟩=some (.int .u64 (S.ac:Int))/\w'.cell? ⟨a.k,4,none⟩=some (.pointer (some ⟨a.rq+2,0,none⟩))) (go_keep)
    (first | (go_at_call 150;refine (CB.out _ ?_).mono ?_;(exact ⟨rfl,rfl,rfl,rfl⟩);rintro e w1 ⟨rfl,h1⟩;have d1:=h1.c1;have d4:=h1.c4))
   go_wp2_with fail
   go_region_held3 (λw'=>w'.cell? ⟨a.k,1,none⟩=some (.int .u64 (S.ac:Int))/\w'.cell? ⟨a.k,4,none⟩=some (.pointer (some ⟨a.rq+2,0,none⟩))) (go_keep)
    (first | (go_at_call 151;refine (CI.out _ ?_).mono ?_;(exact h1.sm ⟨rfl,rfl,rfl,rfl⟩);rintro e w2 ⟨rfl,h2⟩;have f1:=h2.c1;have f4:=h2.c4))
   go_wp2_with fail
   go_region_held3 (λw'=>w'.cell? ⟨a.k,4,none⟩=some (.pointer (some ⟨a.rq+2,0,none⟩))) (go_keep)
    (first | (go_at_call 50;refine (L1.out _ ?_).mono ?_;(exact h2.sm ⟨rfl,rfl,rfl,rfl⟩);rintro e w3 ⟨rfl,h3⟩;clear L1;have g4:=h3.c4) | (go_at_call 50;refine (L2.out _ ?_).mono ?_;(exact h3.sm ⟨rfl,rfl,rfl,rfl⟩);rintro e w4 ⟨rfl,h4⟩;have g5:=h4.c4))
   go_wp2_with fail
   refine (CL.out _ ?_).mono ?_
   exact h4.sm ⟨rfl,rfl,rfl,rfl⟩
   rintro e w5 ⟨v,Z,rfl,h5,rw1⟩
   obtain ⟨p,cap,rfl⟩:=rw1.shape
   go_wp2
   go_loopw [8] (λi wr=>∃ k:Nat,(k:Int)<=L.length/\i=.int .i64 ((k:Int)-1)/\KX B w0 (Z++A) a m S wr/\Hid (∀ j,k<=j->j<L.length->f (L.getD j 0)=false)) (λi _=>(intOf i+1).toNat)
   case atStart=>exact ⟨L.length,by omega,rfl,h5,λj h1 h2=>by omega⟩
   case round=>
    obtain ⟨k,hk,rfl,hw,no⟩:=hrel
    cases k with
    | zero=>
     have R0:(r1,r2,r3)=(0,0,S):=by rw [hr.out,XM L f (λj hj=>no.out j (by omega) hj)];rfl
     clear hr
     simp only [AEj] at R0
     obtain ⟨rfl,rfl,rfl⟩:=R0
     have e9:((0:Nat):Int)-1=-1:=by omega
     simp only [e9]
     go_wp2
     go_ret2
     exact ⟨rfl,(hw.sub λy hy=>ADb _ hy).more (by omega)⟩
    | succ k=>
     have e9:((k+1:Nat):Int)-1=(k:Int):=by omega
     simp only [e9]
     obtain ⟨b,rfl,ck⟩:=rw1.cell hw (i:=k) (by omega)
     have kl:(k:Int)<L.length:=by omega
     have k0:(0:Int)<=(k:Int):=by omega
     have c3:=hw.c3
     have G:Hid (∀ _:Unit,_):=λ_=>Gd hw (L.getD k 0)
     have gk:=KH hw (L.getD k 0)
     have idw:wf (L.getD k 0):=LW _ (by rw [ADY,ADZ (by omega),AEc];exact AEl _)
     have fk:=hf.out (L.getD k 0)
     have NX:Hid (f (L.getD k 0)=false->∀ j,k<=j->j<L.length->f (L.getD j 0)=false):=λq j h1 h2=>by
      by_cases e:j=k
      ·rw [e];exact q
      ·exact no.out j (by omega) h2
     have HT:Hid (f (L.getD k 0)=true->(r1,r2,r3)=(L.getD k 0,(El a.n (JT a.n S (L.getD k 0)) (L.getD k 0) (Ao S (L.getD k 0)).prio tc false).1,(El a.n (JT a.n S (L.getD k 0)) (L.getD k 0) (Ao S (L.getD k 0)).prio tc false).2)):=λq=>by
      rw [hr.out,bM L f k (by omega) (λj h1 h2=>no.out j (by omega) h2) q]
      rfl
     have w1k:IntKind.i64.wrap ((k:Int)-1)=(k:Int)-1:=by rw [IntKind.wrap_i64];omega
     generalize L.getD k 0=id at *
     generalize Ao S id=t at *
     generalize ER S id=ee at *
     obtain ⟨t0,t1,t2,t3,t4,t5⟩:=t
     simp only at *
     have CH:Hid (∀ u,_):=λu=>As t1 tc u gk.1
     generalize f id=fb at *
     rw [<- fk] at CH
     clear fk gk
     cases fb
     ·have NX2:Hid _:=NX.out (by simp)
      clear HT NX
      go_wp2_with fail
      refine (G.out ()).mono ?_
      rintro e w6 ⟨rfl,h6⟩
      go_wp2_with fail
      refine (CH.out _).mono ?_
      rintro e w7 ⟨rfl,rfl⟩
      go_wp2
      go_roundw
      case rel=>exact ⟨k,by omega,rfl,h6.alloc _,NX2.out⟩
      case measure=>first | (simp [intOf];done) | (simp [intOf];omega)
     ·have HT2:=HT.out (by simp)
      clear HT NX hr
      simp only [AEj] at HT2
      obtain ⟨rfl,rfl,rfl⟩:=HT2
      go_wp2_with fail
      refine (G.out ()).mono ?_
      rintro e w6 ⟨rfl,h6⟩
      have h7:=h6.new [.int .i64 t0,.int .u64 (t1:Int),.int .i64 t2,.bool t3,.bool t4,.int .i64 t5] 138
      have c4':=h7.c4
      go_wp2_with fail
      refine (CH.out _).mono ?_
      rintro e w7 ⟨rfl,rfl⟩
      go_wp2_with fail
      refine (IX h7 r1 idw).mono ?_
      rintro e w8 ⟨rfl,h8⟩
      have d0:w8.cell? ⟨w6.heap.size,0,none⟩=some (.int .i64 t0):=h8.AC.cell 0
      go_wp2_with fail
      refine (Vm h8 r1 t0 tc false idw hm).mono ?_
      rintro e w9 ⟨rfl,h9⟩
      go_wp2
      go_ret2
      exact ⟨rfl,h9.drop.sub λy hy=>ADb _ hy⟩
 ·simp only [AHh q]
  generalize Rqb.E1 (Rqb.bc S.ac a.n)=y at *
  generalize Db a.n S=fr at *
  have q2:(y==0)=false:=by simpa using q
  go_enter func95,ntmps95
  go_wp2_with fail
  go_region_held3 (λw'=>w'.cell? ⟨a.k,1,none⟩=some (.int .u64 (S.ac:Int))/\w'.cell? ⟨a.k,4,none⟩=some (.pointer (some ⟨a.rq+2,0,none⟩))) (go_keep)
   (first | (go_at_call 150;refine (CB.out _ ?_).mono ?_;(exact ⟨rfl,rfl,rfl,rfl⟩);rintro e w1 ⟨rfl,h1⟩;have d1:=h1.c1;have d4:=h1.c4))
  go_wp2
  go_ret2
  exact ⟨rfl,h1.more (by omega)⟩
end
section
variable {B:Nat} {w0:World} {A:List (Nat×List Value×TypeId)} {a:KA} {m m':Nat} {S S':KS} {w w':World}
def rR (h:KX B w0 A a m S w) (up:Bool) (c:Int):
 Calls prog 289 #[.pointer (some ⟨a.k,0,none⟩),.bool up,.int .i64 (c)] w λe w'=>e=.returned (.int .i64 (Ck a.n S up c).1)/\KX B w0 A a (m) (Ck a.n S up c).2 w':=by
 unfold Ck
 have CC:Hid (∀ _:Unit,_):=λ_=>Gf h c
 have AN:=h.AN
 have CY:Hid (∀ _:Unit,_):=λ_=>Ov h
 have CH:Hid (∀ u,_):=λu=>As S.on c u h.kb.2.1
 have CM:Hid (∀ u,_):=λu=>CQ S.on u h.kb.2.1
 have CL:Hid (∀ u,_):=λu=>Eu S.ac c u h.kb.2.2
 have CF:Hid (∀ u,A9 u->_):=λu k=>Dz (nt S.ac (bv c)) u (DZ _ _) k
 have CB:Hid (∀ u,KX B w0 A a m S u->_):=λu k=>gX k up c (Bk S c)
 cases q1:AJ a.n c
 ·simp only [AHn]
  rw [q1] at CC
  go_enter func289,ntmps289
  go_wp2_with fail
  refine (CC.out ()).mono ?_
  rintro e w1 ⟨rfl,rfl⟩
  go_wp2
  go_ret
  exact ⟨rfl,h⟩
 ·simp only [AE1,AHm]
  rw [q1] at CC
  cases q2:S.R.isSome
  ·simp only [AD3,AHm]
   rw [q2] at CY
   cases up
   ·cases q3:tb S.on c
    ·rw [q3] at CH
     simp only [AD3,and_self,AHn,AHm]
     go_enter func289,ntmps289
     go_wp2_with fail
     refine (CC.out ()).mono ?_
     rintro e w1 ⟨rfl,rfl⟩
     go_wp2_with fail
     refine (CY.out ()).mono ?_
     rintro e w1 ⟨rfl,h1⟩
     have c0:=h1.c0
     have c1:=h1.c1
     have AN:=h1.AN
     go_wp2_with fail
     refine (CH.out _).mono ?_
     rintro e w2 ⟨rfl,rfl⟩
     go_wp2
     go_ret
     exact ⟨rfl,h1⟩
    ·rw [q3] at CH
     simp only [AD3,AE1,and_false,false_and,true_and,AHm]
     by_cases q4:(ls S.on).length=1
     ·simp only [AHi q4]
      rw [q4] at CM
      go_enter func289,ntmps289
      go_wp2_with fail
      refine (CC.out ()).mono ?_
      rintro e w1 ⟨rfl,rfl⟩
      go_wp2_with fail
      refine (CY.out ()).mono ?_
      rintro e w1 ⟨rfl,h1⟩
      have c0:=h1.c0
      have c1:=h1.c1
      have AN:=h1.AN
      go_wp2_with fail
      refine (CH.out _).mono ?_
      rintro e w2 ⟨rfl,rfl⟩
      go_wp2_with fail
      refine (CM.out _).mono ?_
      rintro e w2 ⟨rfl,rfl⟩
      go_wp2
      go_ret
      exact ⟨rfl,h1⟩
     ·simp only [AHh q4]
      have q5:((((ls S.on).length:Nat):Int)==1)=false:=by simp;omega
      generalize (((ls S.on).length:Nat):Int)=lm at *
      clear q4
      by_cases q9:Hp.BF S.R c (Bk S c)=0
      ·simp only [AHi q9]
       rw [q9] at CB
       obtain ⟨y,hy⟩:∃ y,Hid (Bk S c=y):=⟨_,rfl⟩
       rw [show ((hd (ls (nt S.ac (bv c))):Nat):Int)=y from hy.out] at CF
       rw [show Bk S c=y from hy.out] at CB
       have FN:Hid (∀ u,KX B w0 A a m { S with R:=Hp.EF S.R false c y,gs:=Em.SR S.gs } u->KX B w0 A a m (Lg S false c) u):=λu k=>by
        unfold Lg
        rw [show Bk S c=y from hy.out]
        exact k
       go_enter func289,ntmps289
       go_wp2_with fail
       refine (CC.out ()).mono ?_
       rintro e w1 ⟨rfl,rfl⟩
       go_wp2_with fail
       refine (CY.out ()).mono ?_
       rintro e w1 ⟨rfl,h1⟩
       have c0:=h1.c0
       have c1:=h1.c1
       have AN:=h1.AN
       go_wp2_with fail
       refine (CH.out _).mono ?_
       rintro e w2 ⟨rfl,rfl⟩
       go_wp2_with fail
       refine (CM.out _).mono ?_
       rintro e w2 ⟨rfl,rfl⟩
       go_wp2_with fail
       refine (CL.out _).mono ?_
       rintro e w2 ⟨rfl,rfl⟩
       go_wp2_with fail
       refine (CF.out _ h1.tab).mono ?_
       rintro e w2 ⟨rfl,rfl⟩
       go_wp2_with fail
       refine (CB.out _ h1).mono ?_
       rintro e w3 ⟨rfl,h3⟩
       have Fe:=h3.Fe
       go_wp2_with fail
       refine (Vb h3).mono ?_
       rintro e w4 ⟨rfl,h4⟩
       go_wp2
       go_ret
       exact ⟨rfl,FN.out _ h4⟩
      ·simp only [AHh q9]
       have e0:Hp.EF S.R false c (Bk S c)=S.R:=by unfold Hp.EF;rw [AHh q9]
       have CB2:Hid (∀ u,KX B w0 A a m S u->Calls prog 337 #[.pointer (some ⟨a.dk,0,none⟩),.bool false,.int .i64 c,.int .i64 (Bk S c)] u λe w'=>e=.returned (.int .i64 (Hp.BF S.R c (Bk S c)))/\KX B w0 A a m S w'):=λu k=>(CB.out u k).mono λe w' z=>⟨z.1,by have:=z.2;rw [e0] at this;exact this⟩
       generalize Hp.BF S.R c (Bk S c)=ee at *
       obtain ⟨y,hy⟩:∃ y,Hid (Bk S c=y):=⟨_,rfl⟩
       rw [show ((hd (ls (nt S.ac (bv c))):Nat):Int)=y from hy.out] at CF
       rw [show Bk S c=y from hy.out] at CB2
       have q10:(ee==0)=false:=by simpa using q9
       go_enter func289,ntmps289
       go_wp2_with fail
       refine (CC.out ()).mono ?_
       rintro e w1 ⟨rfl,rfl⟩
       go_wp2_with fail
       refine (CY.out ()).mono ?_
       rintro e w1 ⟨rfl,h1⟩
       have c0:=h1.c0
       have c1:=h1.c1
       have AN:=h1.AN
       go_wp2_with fail
       refine (CH.out _).mono ?_
       rintro e w2 ⟨rfl,rfl⟩
       go_wp2_with fail
       refine (CM.out _).mono ?_
       rintro e w2 ⟨rfl,rfl⟩
       go_wp2_with fail
       refine (CL.out _).mono ?_
       rintro e w2 ⟨rfl,rfl⟩
       go_wp2_with fail
       refine (CF.out _ h1.tab).mono ?_
       rintro e w2 ⟨rfl,rfl⟩
       go_wp2_with fail
       refine (CB2.out _ h1).mono ?_
       rintro e w3 ⟨rfl,h3⟩
       go_wp2
       go_ret
       exact ⟨rfl,h3⟩
   ·cases q3:tb S.on c
    ·rw [q3] at CH
     simp only [AD3,AE1,and_false,false_and,AHm]
     by_cases q9:Hp.BF S.R c (Bk S c)=0
     ·simp only [AHi q9]
      rw [q9] at CB
      obtain ⟨y,hy⟩:∃ y,Hid (Bk S c=y):=⟨_,rfl⟩
      rw [show ((hd (ls (nt S.ac (bv c))):Nat):Int)=y from hy.out] at CF
      rw [show Bk S c=y from hy.out] at CB
      have FN:Hid (∀ u,KX B w0 A a m { S with R:=Hp.EF S.R true c y,gs:=Em.SR S.gs } u->KX B w0 A a m (Lg S true c) u):=λu k=>by
       unfold Lg
       rw [show Bk S c=y from hy.out]
       exact k
      go_enter func289,ntmps289
      go_wp2_with fail
      refine (CC.out ()).mono ?_
      rintro e w1 ⟨rfl,rfl⟩
      go_wp2_with fail
      refine (CY.out ()).mono ?_
      rintro e w1 ⟨rfl,h1⟩
      have c0:=h1.c0
      have c1:=h1.c1
      have AN:=h1.AN
      go_wp2_with fail
      refine (CH.out _).mono ?_
      rintro e w2 ⟨rfl,rfl⟩
      go_wp2_with fail
      refine (CL.out _).mono ?_
      rintro e w2 ⟨rfl,rfl⟩
      go_wp2_with fail
      refine (CF.out _ h1.tab).mono ?_
      rintro e w2 ⟨rfl,rfl⟩
      go_wp2_with fail
      refine (CB.out _ h1).mono ?_
      rintro e w3 ⟨rfl,h3⟩
      have Fe:=h3.Fe
      go_wp2_with fail
      refine (Vb h3).mono ?_
      rintro e w4 ⟨rfl,h4⟩
      go_wp2
      go_ret
      exact ⟨rfl,FN.out _ h4⟩
     ·simp only [AHh q9]
      have e0:Hp.EF S.R true c (Bk S c)=S.R:=by unfold Hp.EF;rw [AHh q9]
      have CB2:Hid (∀ u,KX B w0 A a m S u->Calls prog 337 #[.pointer (some ⟨a.dk,0,none⟩),.bool true,.int .i64 c,.int .i64 (Bk S c)] u λe w'=>e=.returned (.int .i64 (Hp.BF S.R c (Bk S c)))/\KX B w0 A a m S w'):=λu k=>(CB.out u k).mono λe w' z=>⟨z.1,by have:=z.2;rw [e0] at this;exact this⟩
      generalize Hp.BF S.R c (Bk S c)=ee at *
      obtain ⟨y,hy⟩:∃ y,Hid (Bk S c=y):=⟨_,rfl⟩
      rw [show ((hd (ls (nt S.ac (bv c))):Nat):Int)=y from hy.out] at CF
      rw [show Bk S c=y from hy.out] at CB2
      have q10:(ee==0)=false:=by simpa using q9
      go_enter func289,ntmps289
      go_wp2_with fail
      refine (CC.out ()).mono ?_
      rintro e w1 ⟨rfl,rfl⟩
      go_wp2_with fail
      refine (CY.out ()).mono ?_
      rintro e w1 ⟨rfl,h1⟩
      have c0:=h1.c0
      have c1:=h1.c1
      have AN:=h1.AN
      go_wp2_with fail
      refine (CH.out _).mono ?_
      rintro e w2 ⟨rfl,rfl⟩
      go_wp2_with fail
      refine (CL.out _).mono ?_
      rintro e w2 ⟨rfl,rfl⟩
      go_wp2_with fail
      refine (CF.out _ h1.tab).mono ?_
      rintro e w2 ⟨rfl,rfl⟩
      go_wp2_with fail
      refine (CB2.out _ h1).mono ?_
      rintro e w3 ⟨rfl,h3⟩
      go_wp2
      go_ret
      exact ⟨rfl,h3⟩
    ·rw [q3] at CH
     simp only [and_self,AHn]
     go_enter func289,ntmps289
     go_wp2_with fail
     refine (CC.out ()).mono ?_
     rintro e w1 ⟨rfl,rfl⟩
     go_wp2_with fail
     refine (CY.out ()).mono ?_
     rintro e w1 ⟨rfl,h1⟩
     have c0:=h1.c0
     have c1:=h1.c1
     have AN:=h1.AN
     go_wp2_with fail
     refine (CH.out _).mono ?_
     rintro e w2 ⟨rfl,rfl⟩
     go_wp2
     go_ret
     exact ⟨rfl,h1⟩
  ·simp only [AHn]
   rw [q2] at CY
   go_enter func289,ntmps289
   go_wp2_with fail
   refine (CC.out ()).mono ?_
   rintro e w1 ⟨rfl,rfl⟩
   go_wp2_with fail
   refine (CY.out ()).mono ?_
   rintro e w1 ⟨rfl,h1⟩
   have c0:=h1.c0
   have c1:=h1.c1
   have AN:=h1.AN
   go_wp2
   go_ret
   exact ⟨rfl,h1⟩
def yX (h:KX B w0 A a m S w) (k:Int) (hw:wf k) (hm:m<=1000000):
 Calls prog 291 #[.pointer (some ⟨a.k,0,none⟩),.int .i64 (k)] w λe w'=>e=.returned (.int .i64 (J8 S k).1)/\KX B w0 A a (m+1) (J8 S k).2 w':=by
 unfold J8
 have AN:=h.AN
 by_cases q1:k<0
 ·simp only [AHi (Or.inl q1:k<0\/10<=k)]
  go_enter func291,ntmps291
  go_wp2
  go_ret
  exact ⟨rfl,h.more (by omega)⟩
 ·by_cases q2:10<=k
  ·simp only [AHi (Or.inr q2:k<0\/10<=k)]
   go_enter func291,ntmps291
   go_wp2
   go_ret
   exact ⟨rfl,h.more (by omega)⟩
  ·simp only [AHh (show ¬ (k<0\/10<=k) by omega)]
   have wk:IntKind.i64.wrap k=k:=by rw [IntKind.wrap_i64];omega
   go_enter func291,ntmps291
   go_wp2_with fail
   refine (rD h k hw hm).mono ?_
   rintro e w1 ⟨rfl,h1⟩
   go_wp2
   go_ret
   exact ⟨rfl,h1⟩
def rS (h:KX B w0 A a m S w) (c:Int) (hc:-9223372036854775808<=c) (hm:m<=1000000):
 Calls prog 242 #[.pointer (some ⟨a.k,0,none⟩),.int .i64 (c)] w λe w'=>e=.returned (.bool (shift a.n S c).1)/\KX B w0 A a (m+1) (shift a.n S c).2 w':=by
 unfold shift
 have c4:=h.c4
 have CL:Hid (∀ _:Unit,_):=λ_=>VZ h c
 have LW:=Vq h c
 cases hL:Rqu.GD a.n S.q c with
 | nil=>
  rw [hL] at CL
  go_enter func242,ntmps242
  go_wp2_with fail
  refine (CL.out ()).mono ?_
  rintro e w1 ⟨v,Z,rfl,h1,rw1⟩
  obtain ⟨p,cap,rfl⟩:=rw1.shape
  go_wp2
  go_ret
  exact ⟨rfl,(h1.sub λy hy=>ADb _ hy).more (by omega)⟩
 | cons id L=>
  rw [hL] at CL LW
  have idw:=LW id (by simp)
  have l1:(((id::L).length:Nat):Int)≠0:=by rw [ADy];omega
  have l2:((((id::L).length:Nat):Int)==0)=false:=by simpa using l1
  have l3:(0:Int)<(((id::L).length:Nat):Int):=by rw [ADy];omega
  have l4:0<(id::L).length:=by simp
  have CK:Hid (∀ p cap Z u,Rw Z (.slice p (id::L).length cap) (id::L)->KX B w0 (Z++A) a m S u->∃ b,p=some ⟨b,0,none⟩/\u.cell? ⟨b,0,none⟩=some (.int .i64 id)):=λp cap Z u r k=>by
   obtain ⟨b,e,c⟩:=r.cell k (i:=0) (by simp)
   exact ⟨b,e,c⟩
  go_enter func242,ntmps242
  go_wp2_with fail
  refine (CL.out ()).mono ?_
  rintro e w1 ⟨v,Z,rfl,h1,rw1⟩
  obtain ⟨p,cap,rfl⟩:=rw1.shape
  obtain ⟨b,rfl,ck⟩:=CK.out p cap Z w1 rw1 h1
  obtain ⟨n1,hn1⟩:∃ n1,Hid ((id::L).length=n1):=⟨_,rfl⟩
  rw [show (id::L).length=n1 from hn1.out] at l1 l2 l3 l4 ⊢
  go_wp2_with fail
  refine (bH h1 id c idw hc hm).mono ?_
  rintro e w2 ⟨rfl,h2⟩
  go_wp2
  go_ret
  exact ⟨rfl,h2.sub λy hy=>ADb _ hy⟩
end
section
variable {B:Nat} {w0:World} {A:List (Nat×List Value×TypeId)} {a:KA} {m m':Nat} {S S':KS} {w w':World}
def ACL {x:Int} (h:x∈Sl.li k O) (hk:k<=64:=by omega):wf x:=by
 unfold Sl.li at h
 obtain ⟨i,hi,rfl⟩:=AE6.1 h
 have:=ADk.1 (AD9.1 hi).1
 exact K3 (by omega) (by omega)
def yY (h:KX B w0 A a m S w) (st c:Int):
 Calls prog 182 #[.pointer (some ⟨a.k,0,none⟩),.int .i64 (st),.int .i64 (c)] w λe w'=>e=.returned (.bool true)/\KX B w0 A a m (Sr S st c) w':=by
 unfold Sr
 by_cases q:st=1
 ·subst q
  simp only [AHn]
  have hac:=h.kb.2.2
  have CW:Hid (∀ _:Unit,_):=λ_=>Et S.ac [c] (.slice (some ⟨w.heap.size,0,none⟩) 1 1) (w.alloc (.cells #[.int .i64 c] 3)) hac (by simp) (OM w [c] 3 1 1 rfl)
  have H:=(h.alloc (.cells #[.int .i64 c] 3)).XK (Gh S.ac [c] hac)
  have c1:=h.c1
  have f1:=(h.alloc (.cells #[.int .i64 c] 3)).fz 1
  have d1:=(h.alloc (.cells #[.int .i64 c] 3)).c1
  generalize wl S.ac [c]=x at *
  go_enter func182,ntmps182
  go_wp2_with fail
  refine (CW.out ()).mono ?_
  rintro e w1 ⟨rfl,rfl⟩
  go_wp2
  go_ret
  exact ⟨rfl,H⟩
 ·simp only [AHh q]
  have q2:(st==1)=false:=by simpa using q
  go_enter func182,ntmps182
  go_wp2
  go_ret
  exact ⟨rfl,h⟩
def iH (h:KX B w0 A a m S w) (st c:Int):
 Calls prog 181 #[.pointer (some ⟨a.k,0,none⟩),.int .i64 (st),.int .i64 (c)] w λe w'=>e=.returned (.bool true)/\KX B w0 A a m (J9 S st c) w':=by
 unfold J9
 by_cases q:st=1
 ·subst q
  simp only [AHn]
  have BJ:=h.BJ
  go_enter func181,ntmps181
  go_wp2_with fail
  refine (ME h c false).mono ?_
  rintro e w1 ⟨⟨x,rfl⟩,h1⟩
  go_wp2
  go_ret
  exact ⟨rfl,h1⟩
 ·simp only [AHh q]
  have q2:(st==1)=false:=by simpa using q
  go_enter func181,ntmps181
  go_wp2
  go_ret
  exact ⟨rfl,h⟩
def bO (h:KX B w0 A a m S w) (c b:Int) (hc:-9223372036854775808<=c):
 Calls prog 246 #[.pointer (some ⟨a.k,0,none⟩),.int .i64 (c),.int .i64 (b)] w λe w'=>e=.returned (.bool (Dv a.n S c b).1)/\KX B w0 A a (m) (Dv a.n S c b).2 w':=by
 unfold Dv
 have Ba:=h.Ba
 have CO:Hid (∀ _:Unit,_):=λ_=>ABz h
 have CR:Hid (∀ u,KX B w0 A a m S u->_):=λu k=>iA k
 cases q1:Ek.Gb S.sl S.sh
 ·rw [q1] at CO
  simp only [AD3,AHm]
  have hac:=h.kb.2.2
  have CW:Hid (∀ u v,Row u v [c]->_):=λu v r=>Et S.ac [c] v u hac (by simp) r
  have CL:Hid (∀ u,_):=λu=>Eu (wl S.ac [c]) b u (Gh S.ac [c] hac)
  have CB:Hid (∀ u,KX B w0 A a m S u->_):=λu k=>hO k (nt (wl S.ac [c]) (bv b)) (DZ _ _)
  go_enter func246,ntmps246
  go_wp2_with fail
  refine (CO.out ()).mono ?_
  rintro e w1 ⟨rfl,h1⟩
  have c1:=h1.c1
  have Ba:=h1.Ba
  have ne1:=World.new_ne w1 _ h1.c1
  have ne2:=World.new_ne w1 _ h1.Ba
  have RN:=OM w1 [c] 3 1 1 rfl
  go_wp2_with fail
  go_region_held3 (λw'=>w'.cell? ⟨a.k,1,none⟩=some (.int .u64 (S.ac:Int))/\w'.cell? ⟨a.k,14,none⟩=some (.pointer (some ⟨a.st,0,none⟩))) (go_keep)
   (first | (go_at_call 20;refine (CW.out _ _ ?_).mono ?_;(exact RN);rintro e w2 ⟨rfl,rfl⟩) | (go_at_call 19;refine (CL.out _).mono ?_;rintro e w2 ⟨rfl,rfl⟩) | (go_at_call 305;refine (CB.out _ ?_).mono ?_;(exact (h1.alloc (.cells #[.int .i64 c] 3)).sm ⟨rfl,rfl,rfl,rfl⟩);rintro e w2 ⟨rfl,h2⟩;have e1:=h2.c1;have e14:=h2.Ba))
  go_wp2
  go_ret
  exact ⟨rfl,h2⟩
 ·rw [q1] at CO
  simp only [AHn]
  cases q2:Ek.GR S.sl S.sh
  ·rw [q2] at CR
   simp only [AD3,AHm]
   go_enter func246,ntmps246
   go_wp2_with fail
   refine (CO.out ()).mono ?_
   rintro e w1 ⟨rfl,h1⟩
   have Ba:=h1.Ba
   go_wp2_with fail
   refine (CR.out _ h1).mono ?_
   rintro e w2 ⟨rfl,h2⟩
   go_wp2
   go_ret
   exact ⟨rfl,h2⟩
  ·rw [q2] at CR
   simp only [AHn]
   have LN:((Cl S c).length:Int)<=16:=by have:=Gj (Nm.on S.r c) 16;unfold Cl;omega
   have CL:Hid (∀ u,KX B w0 A a m S u->_):=λu k=>lJ k c
   have NX:Hid (∀ k,k<(Cl S c).length->sendAll a.n S c ((Cl S c).take (k+1))=(send a.n (sendAll a.n S c ((Cl S c).take k)) ((Cl S c).getD k 0) c).2):=λk hk=>by
    rw [Eo _ _ hk]
    unfold sendAll
    rw [AFE]
    rfl
   have FN:Hid (sendAll a.n S c ((Cl S c).take (Cl S c).length)=sendAll a.n S c (Cl S c)):=by rw [Hid,AEV]
   have S0:Hid (sendAll a.n S c ((Cl S c).take 0)=S):=rfl
   obtain ⟨T,hT⟩:∃ T:Nat->KS,Hid (∀ k,sendAll a.n S c ((Cl S c).take k)=T k):=⟨_,λ_=>rfl⟩
   simp only [show ∀ k,sendAll a.n S c ((Cl S c).take k)=T k from hT.out] at NX FN S0
   obtain ⟨E,hE⟩:∃ E:KS,Hid (sendAll a.n S c (Cl S c)=E):=⟨_,rfl⟩
   rw [show sendAll a.n S c (Cl S c)=E from hE.out] at FN ⊢
   clear hT hE
   generalize Cl S c=L at *
   go_enter func246,ntmps246
   go_wp2_with fail
   refine (CO.out ()).mono ?_
   rintro e w1 ⟨rfl,h1⟩
   have Ba:=h1.Ba
   go_wp2_with fail
   refine (CR.out _ h1).mono ?_
   rintro e w2 ⟨rfl,h2⟩
   have c7:=h2.c7
   go_wp2_with fail
   refine (CL.out _ h2).mono ?_
   rintro e w3 ⟨v,Z,rfl,h3,rw1⟩
   obtain ⟨p,cap,rfl⟩:=rw1.shape
   go_wp2
   go_loopw [47] (λi wr=>∃ k:Nat,(k:Int)<=L.length/\i=.int .i64 (k:Int)/\KX B w0 (Z++A) a m (T k) wr) (λi _=>L.length-(intOf i).toNat)
   case atStart=>exact ⟨0,by omega,rfl,by rw [S0.out];exact h3⟩
   case round=>
    obtain ⟨k,hk,rfl,hr⟩:=hrel
    by_cases ck:(k:Int)<L.length
    ·obtain ⟨b1,rfl,cc⟩:=rw1.cell hr (i:=k) (by omega)
     have nx:=NX.out k (by omega)
     generalize L.getD k 0=x at *
     go_wp2_with fail
     refine (Sy hr x c hc).mono ?_
     rintro e w4 ⟨rfl,h4⟩
     go_wp2
     go_roundw
     case rel=>exact ⟨k+1,by omega,by go_num,by rw [nx];exact h4⟩
     case measure=>simp [intOf];omega
    ·have e1:k=L.length:=by omega
     subst e1
     rw [FN.out] at hr
     have Ba:=hr.Ba
     go_wp2_with fail
     refine (rG hr).mono ?_
     rintro e w4 ⟨rfl,h4⟩
     go_wp2
     go_ret
     exact ⟨rfl,h4.sub λy hy=>ADb _ hy⟩
def yZ (h:KX B w0 A a m S w) (hm:m+32<=1000000):
 Calls prog 241 #[.pointer (some ⟨a.k,0,none⟩)] w λe w'=>e=.returned (.tuple #[])/\KX B w0 A a (m+32) (home a.n S) w':=by
 unfold home
 have c3:=h.c3
 have CL:Hid (∀ _:Unit,_):=λ_=>VY h
 have LN:((Sl.li 32 S.O).length:Int)<=32:=by have:=bJ 32 S.O;omega
 have LW:Hid (∀ k,k<(Sl.li 32 S.O).length->wf ((Sl.li 32 S.O).getD k 0)):=λk hk=>ACL (by rw [ADY,ADZ hk,AEc];exact AEl hk)
 have NX1:Hid (∀ k,k<(Sl.li 32 S.O).length->Bv a.n S ((Sl.li 32 S.O).take (k+1))=(JB a.n (Bv a.n S ((Sl.li 32 S.O).take k)) ((Sl.li 32 S.O).getD k 0)).2):=λk hk=>by
  rw [Eo _ _ hk]
  unfold Bv
  rw [AFE]
  rfl
 have FN1:Hid (Bv a.n S ((Sl.li 32 S.O).take (Sl.li 32 S.O).length)=Bv a.n S (Sl.li 32 S.O)):=by rw [Hid,AEV]
 have ST1:Hid (Bv a.n S ((Sl.li 32 S.O).take 0)=S):=rfl
 obtain ⟨T1,hT1⟩:∃ T:Nat->KS,Hid (∀ k,Bv a.n S ((Sl.li 32 S.O).take k)=T k):=⟨_,λ_=>rfl⟩
 simp only [show ∀ k,Bv a.n S ((Sl.li 32 S.O).take k)=T1 k from hT1.out] at NX1 FN1 ST1
 clear hT1
 obtain ⟨S1,hS1⟩:∃ S1:KS,Hid (XD a.n S=S1):=⟨_,rfl⟩
 rw [show XD a.n S=S1 from hS1.out]
 rw [show Bv a.n S (Sl.li 32 S.O)=S1 from hS1.out] at FN1
 generalize Sl.li 32 S.O=L at *
 have CI:Hid (∀ u A,KX B w0 A a (m+32) S1 u->_):=λu A k=>qP k
 have LN2:((FJ S1).length:Int)<=16:=by have:=Gj (λk=>(S1.i k).wt) 16;unfold FJ;omega
 have NX2:Hid (∀ k,k<(FJ S1).length->BO a.n S1 ((FJ S1).take (k+1))=(Du a.n (BO a.n S1 ((FJ S1).take k)) ((FJ S1).getD k 0)).2):=λk hk=>by
  rw [Eo _ _ hk]
  unfold BO
  rw [AFE]
  rfl
 have FN2:Hid (BO a.n S1 ((FJ S1).take (FJ S1).length)=BO a.n S1 (FJ S1)):=by rw [Hid,AEV]
 have ST2:Hid (BO a.n S1 ((FJ S1).take 0)=S1):=rfl
 obtain ⟨T2,hT2⟩:∃ T:Nat->KS,Hid (∀ k,BO a.n S1 ((FJ S1).take k)=T k):=⟨_,λ_=>rfl⟩
 simp only [show ∀ k,BO a.n S1 ((FJ S1).take k)=T2 k from hT2.out] at NX2 FN2 ST2
 clear hT2
 obtain ⟨E,hE⟩:∃ E:KS,Hid (BO a.n S1 (FJ S1)=E):=⟨_,rfl⟩
 rw [show BO a.n S1 (FJ S1)=E from hE.out] at FN2 ⊢
 clear hE hS1
 generalize FJ S1=L2 at *
 go_enter func241,ntmps241
 go_wp2_with fail
 refine (CL.out ()).mono ?_
 rintro e w1 ⟨v,Z,rfl,h1,rw1⟩
 obtain ⟨p,cap,rfl⟩:=rw1.shape
 go_wp2
 go_loopw [13] (λi wr=>∃ k:Nat,(k:Int)<=L.length/\i=.int .i64 (k:Int)/\KX B w0 (Z++A) a (m+k) (T1 k) wr) (λi _=>L.length-(intOf i).toNat)
 case atStart=>exact ⟨0,by omega,rfl,by rw [ST1.out];exact h1⟩
 case round=>
  obtain ⟨k,hk,rfl,hr⟩:=hrel
  by_cases ck:(k:Int)<L.length
  ·obtain ⟨b1,rfl,cc⟩:=rw1.cell hr (i:=k) (by omega)
   have nx:=NX1.out k (by omega)
   have hw:=LW.out k (by omega)
   generalize L.getD k 0=x at *
   go_wp2_with fail
   refine (bI hr x hw (by omega)).mono ?_
   rintro e w4 ⟨rfl,h4⟩
   go_wp2
   go_roundw
   case rel=>exact ⟨k+1,by omega,by go_num,by rw [nx];exact h4⟩
   case measure=>simp [intOf];omega
  ·have e1:k=L.length:=by omega
   subst e1
   rw [FN1.out] at hr
   have hr2:=hr.more (m':=m+32) (by omega)
   have c6:=hr2.c6
   clear hr
   go_wp2_with fail
   refine (CI.out _ _ hr2).mono ?_
   rintro e w5 ⟨v2,Z2,rfl,h5,rw2⟩
   obtain ⟨p2,cap2,rfl⟩:=rw2.shape
   clear hr2
   go_wp2
   go_loopw [28] (λi wr=>∃ k:Nat,(k:Int)<=L2.length/\i=.int .i64 (k:Int)/\KX B w0 (Z2++(Z++A)) a (m+32) (T2 k) wr) (λi _=>L2.length-(intOf i).toNat)
   case atStart=>exact ⟨0,by omega,rfl,by rw [ST2.out];exact h5⟩
   case round=>
    obtain ⟨k,hk,rfl,hr⟩:=hrel
    by_cases ck:(k:Int)<L2.length
    ·obtain ⟨b1,rfl,cc⟩:=rw2.cell hr (i:=k) (by omega)
     have nx:=NX2.out k (by omega)
     generalize L2.getD k 0=x at *
     go_wp2_with fail
     refine (QM hr x).mono ?_
     rintro e w4 ⟨rfl,h4⟩
     go_wp2
     go_roundw
     case rel=>exact ⟨k+1,by omega,by go_num,by rw [nx];exact h4⟩
     case measure=>simp [intOf];omega
    ·have e1:k=L2.length:=by omega
     subst e1
     rw [FN2.out] at hr
     go_wp2
     go_end0
     exact ⟨rfl,(hr.sub λy hy=>ADb _ hy).sub λy hy=>ADb _ hy⟩
end
end Go.Proofs.YtdlhlfpigcgapaaGreatDoor.Krn
namespace Go.Proofs.YtdlhlfpigcgapaaGreatDoor
open Go.Proofs.Tryz
variable {l listed:Array Bool} {w:World} {fuel i j:Nat} {a:Act} {v:Value} {zs:List Nat} {oi:Oper}
section
variable {P:Program} {ops:Array Oper} {Q:Exit->Act->World->Prop} {md:Region.Mode} {S:World->Prop} {zs:List Nat}
def Un (zs:List Nat) (l:Array Bool):Prop:=∀ z∈zs,l.getD z false=false
def zA (zs:List Nat) (l:Array Bool):Bool:=zs.all λz=>!l.getD z false
def EI (h:zA zs l=true):Un zs l:=λz hz=>by simpa using AF1.1 h z hz
def BK (h:zA zs l=false):¬ Un zs l:=λq=>by
 have:zA zs l=true:=AF1.2 λz hz=>by simp [q z hz]
 rw [this] at h
 cases h
def Ag (P:Program) (md:Region.Mode) (ops:Array Oper) (Q:Exit->Act->World->Prop) (S:World->Prop) (zs:List Nat):Nat->Array Bool->Act->World->Prop
 | 0,listed,a,w=>Region.ready md ops listed=[]/\Q .normal a w
 | fuel+1,listed,a,w=>
  (Region.ready md ops listed=[]->Q .normal a w)/\
  ∀ i∈Region.ready md ops listed,wpOp P ops Q i (λa' w'=>(Un zs (listed.setIfInBounds i true)->S w')/\Ag P md ops Q S zs fuel (listed.setIfInBounds i true) a' w') a w
def Nr:∀ (fuel:Nat) (listed:Array Bool) (a:Act) (w:World),Ag P md ops Q S zs fuel listed a w->wpAny P md ops Q fuel listed a w
 | 0,_,_,_,h=>h
 | fuel+1,_,_,_,h=>⟨h.1,λi hi=>wpOp_mono (λa' w' h'=>Nr fuel _ a' w' h'.2) (h.2 i hi)⟩
def IZ (md:Region.Mode) (ops:Array Oper) (listed:Array Bool):Prop:=∀ j o,ops[j]?=some o->listed.getD j false=true->∀ e∈o.after,Region.binds md e=true->listed.getD e.on false=true
def Ox (md:Region.Mode) (ops:Array Oper) (listed:Array Bool):Bool:=(List.range ops.size).all λj=>!listed.getD j false || (match ops[j]? with | none=>true | some o=>o.after.all λe=>!Region.binds md e || listed.getD e.on false)
def bP (h:Ox md ops listed=true):IZ md ops listed:=λj o ho hl e he hb=>by
 have hj:j<ops.size:=(AEi.1 ho).1
 have:=AF1.1 h j (ADk.2 hj)
 rw [hl,ho] at this
 simp only [Bool.not_true,Bool.false_or] at this
 have:=Array.all_eq_true_iff_forall_mem.1 this e he
 rw [hb] at this
 simpa using this
def IZ.set (h:IZ md ops listed) (hj:j∈Region.ready md ops listed):IZ md ops (listed.setIfInBounds j true):=λk o ho hl e he hb=>by
 by_cases c:k=j
 ·subst c
  obtain ⟨_,o',ho',hall⟩:=mem_ready.1 hj
  rw [ho] at ho'
  cases ho'
  exact getD_set_true (hall e he hb)
 ·rw [getD_set_ne false (λq=>c q.symm)] at hl
  exact getD_set_true (h k o ho hl e he hb)
def waits (md:Region.Mode) (ops:Array Oper):Nat->Nat->Nat->Bool
 | 0,_,_=>false
 | n+1,z,i=>match ops[z]? with | none=>false | some o=>o.after.any λe=>Region.binds md e&&(e.on==i || waits md ops n e.on i)
def Sz {listed:Array Bool} (h:IZ md ops listed):∀ (n z i:Nat),waits md ops n z i=true->listed.getD i false=false->listed.getD z false=false
 | 0,_,_,hw,_=>by cases hw
 | n+1,z,i,hw,hi=>by
  unfold waits at hw
  cases ho:ops[z]? with
  | none=>rw [ho] at hw;cases hw
  | some o=>
   rw [ho] at hw
   obtain ⟨k,hk,hk2⟩:=Array.any_eq_true.1 hw
   have he:o.after[k]∈o.after:=Array.getElem_mem hk
   simp only [ADe,Bool.or_eq_true] at hk2
   obtain ⟨hb,hr⟩:=hk2
   cases hz:listed.getD z false with
   | false=>rfl
   | true=>
    have hd:=h z o ho hz _ he hb
    rcases hr with hr | hr
    ·rw [show o.after[k].on=i by simpa using hr] at hd
     rw [hd] at hi
     cases hi
    ·have:=Sz h n _ _ hr hi
     rw [this] at hd
     cases hd
def MG (h:listed.getD i true=false):listed.getD i false=false:=by
 by_cases c:i<listed.size
 ·simp [c] at h ⊢
  exact h
 ·simp [c] at h
def S3 (hi:ops[i]?=some oi) (hsel:∀ (j:Nat) (o:Oper) cs b,ops[j]?=some o->o.op≠.select cs b)
 (hQ:∀ c a w,Q (.panic c) (a.put oi.dst v) w->Q (.panic c) a w) (n:Nat) (hz:∀ z∈zs,waits md ops n z i=true/\z≠i):
 ∀ (fuel:Nat) (listed:Array Bool) (a:Act) (w:World),IZ md ops listed->
  (∀ j oj,ops[j]?=some oj->j≠i->listed.getD j true=false->(∀ e∈oj.after,Region.binds md e=true->e.on≠i)->oi.apart ops oj=true)->
  i∈Region.ready md ops listed->YieldsIf P ops S oi v a->S w->
  Ag P md ops Q S zs fuel (listed.setIfInBounds i true) (a.put oi.dst v) w->Ag P md ops Q S zs (fuel+1) listed a w:=by
 intro fuel
 induction fuel with
 | zero=>
  intro listed a w _ _ hr hy hS H
  refine ⟨λh=>(by rw [h] at hr;cases hr),λj hj=>?_⟩
  by_cases hji:j=i
  ·subst hji;exact hy.wpOp hi hS ⟨λ_=>hS,H⟩
  ·have:=ready_mono hj hji
   rw [H.1] at this
   cases this
 | succ fuel ih=>
  intro listed a w hcl hfree hr hy hS H
  refine ⟨λh=>(by rw [h] at hr;cases hr),λj hj=>?_⟩
  by_cases hji:j=i
  ·subst hji;exact hy.wpOp hi hS ⟨λ_=>hS,H⟩
  ·have h1:=H.2 j (ready_mono hj hji)
   obtain ⟨hjun,oj,hoj,hall⟩:=mem_ready.1 hj
   have hnot:∀ e∈oj.after,Region.binds md e=true->e.on≠i:=λe he hb heq=>by
    have h1:=hall e he hb
    have h0:=(mem_ready.1 hr).1
    rw [heq] at h1
    rw [MG h0] at h1
    cases h1
   have h2:=wpOp_putIf hoj (hfree j oj hoj hji hjun hnot) (λcs b=>hsel i oi cs b hi) (λcs b=>hsel j oj cs b hoj) hQ hy h1
   have hfree':∀ k ok,ops[k]?=some ok->k≠i->(listed.setIfInBounds j true).getD k true=false->
    (∀ e∈ok.after,Region.binds md e=true->e.on≠i)->oi.apart ops ok=true:=λk ok hk hki hun hno=>by
    refine hfree k ok hk hki ?_ hno
    by_cases hjk:j=k
    ·subst hjk;exact hjun
    ·rw [getD_set_ne true hjk] at hun;exact hun
   have hcl':=hcl.set hj
   have hir:=ready_mono hr (Ne.symm hji)
   have hzu:Un zs (listed.setIfInBounds j true):=λz hzm=>Sz hcl' n z i (hz z hzm).1 (MG (mem_ready.1 hir).1)
   have hzu2:Un zs ((listed.setIfInBounds i true).setIfInBounds j true):=λz hzm=>by
    rw [<- AFM _ _ hji,getD_set_ne false (λq=>(hz z hzm).2 q.symm)]
    exact hzu z hzm
   refine wpOp_mono (λa' w' h3=>⟨λ_=>h3.2.1 hzu2,ih (listed.setIfInBounds j true) a' w' hcl' hfree' hir h3.1 (h3.2.1 hzu2) ?_⟩) h2
   rw [AFM _ _ hji]
   exact h3.2.2
def S4 (md:Region.Mode) (ops:Array Oper) (zs:List Nat) (i:Nat):Bool:=zs.all λz=>waits md ops 12 z i&&z !=i
def Tz (hi:ops[i]?=some oi)
 (hs:Region.noSelect ops=true) (hc:Ox md ops listed=true) (hw:S4 md ops zs i=true) (hf:Region.free md ops listed i=true) (hr:(Region.ready md ops listed).contains i=true)
 (hQ:∀ c a w,Q (.panic c) (a.put oi.dst v) w->Q (.panic c) a w) (hy:YieldsIf P ops S oi v a) (hS:S w)
 (h:Ag P md ops Q S zs fuel (listed.setIfInBounds i true) (a.put oi.dst v) w):Ag P md ops Q S zs (fuel+1) listed a w:=
 S3 hi (Region.noSelect_spec hs) hQ 12 (λz hz=>by have:=AF1.1 hw z hz;simpa using this) fuel listed a w (bP hc) (Region.free_spec hi hf) (by simpa using hr) hy hS h
def QT (hi:ops[i]?=some oi) (hsel:∀ (j:Nat) (o:Oper) cs b,ops[j]?=some o->o.op≠.select cs b)
 (hQ:∀ c a w,Q (.panic c) (a.put oi.dst v) w->Q (.panic c) a w) (hz:∀ z∈zs,z≠i):
 ∀ (fuel:Nat) (listed:Array Bool) (a:Act) (w:World),
  (∀ j oj,ops[j]?=some oj->j≠i->listed.getD j true=false->(∀ e∈oj.after,Region.binds md e=true->e.on≠i)->oi.apart ops oj=true)->
  i∈Region.ready md ops listed->YieldsIf P ops (λ_=>True) oi v a->(Un zs listed->S w)->
  Ag P md ops Q S zs fuel (listed.setIfInBounds i true) (a.put oi.dst v) w->Ag P md ops Q S zs (fuel+1) listed a w:=by
 have down:∀ l:Array Bool,Un zs (l.setIfInBounds i true)->Un zs l:=λl q z hzm=>by
  have:=q z hzm
  rwa [getD_set_ne false (λe=>hz z hzm e.symm)] at this
 intro fuel
 induction fuel with
 | zero=>
  intro listed a w _ hr hy hS H
  refine ⟨λh=>(by rw [h] at hr;cases hr),λj hj=>?_⟩
  by_cases hji:j=i
  ·subst hji;exact hy.wpOp hi trivial ⟨λq=>hS (down _ q),H⟩
  ·have:=ready_mono hj hji
   rw [H.1] at this
   cases this
 | succ fuel ih=>
  intro listed a w hfree hr hy hS H
  refine ⟨λh=>(by rw [h] at hr;cases hr),λj hj=>?_⟩
  by_cases hji:j=i
  ·subst hji;exact hy.wpOp hi trivial ⟨λq=>hS (down _ q),H⟩
  ·have h1:=H.2 j (ready_mono hj hji)
   obtain ⟨hjun,oj,hoj,hall⟩:=mem_ready.1 hj
   have hnot:∀ e∈oj.after,Region.binds md e=true->e.on≠i:=λe he hb heq=>by
    have h1:=hall e he hb
    have h0:=(mem_ready.1 hr).1
    rw [heq] at h1
    rw [MG h0] at h1
    cases h1
   have h2:=wpOp_putIf hoj (hfree j oj hoj hji hjun hnot) (λcs b=>hsel i oi cs b hi) (λcs b=>hsel j oj cs b hoj) hQ hy h1
   have hfree':∀ k ok,ops[k]?=some ok->k≠i->(listed.setIfInBounds j true).getD k true=false->
    (∀ e∈ok.after,Region.binds md e=true->e.on≠i)->oi.apart ops ok=true:=λk ok hk hki hun hno=>by
    refine hfree k ok hk hki ?_ hno
    by_cases hjk:j=k
    ·subst hjk;exact hjun
    ·rw [getD_set_ne true hjk] at hun;exact hun
   have hir:=ready_mono hr (Ne.symm hji)
   have up:Un zs (listed.setIfInBounds j true)->Un zs ((listed.setIfInBounds i true).setIfInBounds j true):=λq z hzm=>by
    rw [<- AFM _ _ hji,getD_set_ne false (λe=>hz z hzm e.symm)]
    exact q z hzm
   refine wpOp_mono (λa' w' h3=>⟨λq=>h3.2.1 (up q),ih (listed.setIfInBounds j true) a' w' hfree' hir h3.1 (λq=>h3.2.1 (up q)) ?_⟩) h2
   rw [AFM _ _ hji]
   exact h3.2.2
def A5 (hi:ops[i]?=some oi)
 (hs:Region.noSelect ops=true) (hw:(zs.all λz=>z !=i)=true) (hf:Region.free md ops listed i=true) (hr:(Region.ready md ops listed).contains i=true)
 (hQ:∀ c a w,Q (.panic c) (a.put oi.dst v) w->Q (.panic c) a w) (hy:YieldsIf P ops (λ_=>True) oi v a) (hS:Un zs listed->S w)
 (h:Ag P md ops Q S zs fuel (listed.setIfInBounds i true) (a.put oi.dst v) w):Ag P md ops Q S zs (fuel+1) listed a w:=
 QT hi (Region.noSelect_spec hs) hQ (λz hz=>by have:=AF1.1 hw z hz;simpa using this) fuel listed a w (Region.free_spec hi hf) (by simpa using hr) hy hS h
def S5 (P:Program) (md:Region.Mode) (ops:Array Oper) (Q:Exit->Act->World->Prop) (S:World->Prop) (zs:List Nat) (fuel:Nat) (listed:Array Bool) (a:Act) (w:World) (i:Nat):Prop:=
 wpOp P ops Q i (λa' w'=>(Un zs (listed.setIfInBounds i true)->S w')/\Ag P md ops Q S zs fuel (listed.setIfInBounds i true) a' w') a w
def Bu {o:Oper} (ho:ops[i]?=some o)
 (h:∀ K':Act->World->Prop,Shut (∀ a w,(Un zs (listed.setIfInBounds i true)->S w)->((Un zs (listed.setIfInBounds i true)->S w)->Ag P md ops Q S zs fuel (listed.setIfInBounds i true) a w)->K' a w)->if Region.wanted o (yielded ops a.tmps)=true then Oper.wp P o a w K' Q else K' (a.put o.dst undef) w):S5 P md ops Q S zs fuel listed a w i:=
 wpOp_step ho (λK' hK=>h K' (λa w hS hW=>hK a w ⟨hS,hW hS⟩))
def KM (rs:List Nat) (hr:Region.ready md ops listed=rs) (hn:rs≠[]) (h:∀ i∈rs,S5 P md ops Q S zs fuel listed a w i):Ag P md ops Q S zs (fuel+1) listed a w:=
 ⟨λh0=>absurd (hr.symm.trans h0) hn,λj hj=>h j (hr ▸ hj)⟩
def AV (hr:Region.ready md ops listed=[i]) (h:S5 P md ops Q S zs fuel listed a w i):Ag P md ops Q S zs (fuel+1) listed a w:=
 KM [i] hr (by simp) (λj hj=>by rw [ADu.1 hj];exact h)
def Ns (hr:Region.ready md ops listed=[i,j]) (h:S5 P md ops Q S zs fuel listed a w i) (k:S5 P md ops Q S zs fuel listed a w j):Ag P md ops Q S zs (fuel+1) listed a w:=
 KM [i,j] hr (by simp) (λl hl=>by
  simp only [AD0,ADt,or_false] at hl
  rcases hl with e | e
  ·rw [e];exact h
  ·rw [e];exact k)
def B6 {listed:Array Bool} {a:Act} {w:World} (hr:Region.ready md ops listed=[]) (h:Q .normal a w) :
 ∀ fuel,Ag P md ops Q S zs fuel listed a w
 | 0=>⟨hr,h⟩
 | _+1=>⟨λ_=>h,by rw [hr];simp⟩
def Hf {id:Nat} (zs:List Nat) (S:World->Prop) (hm:P.follows .mixedOrders=true) (hS:S w.drew)
 (h:S w.drew->Ag P .any ops Q S zs ops.size (Array.replicate ops.size false) a w.drew):(Code.region id ops true).wp P Q a w:=
 wp_region_any hm (Nr _ _ _ _ (h hS))
end
open Go.ChangeShapes Go.WideShapes Go.ChangeAt Go.RowKit
variable {w:World} {v:Value} {fuel:Nat} {l' listed:Array Bool} {a a':Act}
section
variable {P:Program} {ops:Array Oper} {Q:Exit->Act->World->Prop} {md:Region.Mode} {S:World->Prop} {zs:List Nat}
def pK (i:Nat) (oi:Oper) (hS:S w) (h:Ag P md ops Q S zs fuel l' a' w)
 (hi:ops[i]?=some oi:=by rfl) (hk:(Region.noSelect ops&&(zs.all λz=>z !=i)&&Region.free md ops listed i&&(Region.ready md ops listed).contains i)=true:=by kernel_rfl)
 (hQ:∀ c a w,Q (.panic c) (a.put oi.dst v) w->Q (.panic c) a w:=by exact λ_ _ _ h=>h)
 (hg:Region.wanted oi (yielded ops a.tmps)=true:=by rfl) (hy:∀ w,True->(execOp a.eval oi).run P w=.ok (.value v) w:=by (intro wz _;go_simp <;> with_reducible rfl))
 (hp:a.put oi.dst v=a':=by (simp only [Act.put,AD1,AD5,AD2];rfl))
 (hl:listed.setIfInBounds i true=l':=by rfl):Ag P md ops Q S zs (fuel+1) listed a w:=by
 subst hp hl
 simp only [ADe] at hk
 exact A5 hi hk.1.1.1 hk.1.1.2 hk.1.2 hk.2 hQ (Or.inl ⟨hg,hy⟩) (λ_=>hS) h
def xK (i:Nat) (oi:Oper) (hS:S w) (h:Ag P md ops Q S zs fuel l' a' w)
 (hi:ops[i]?=some oi:=by rfl) (hk:(Region.noSelect ops&&(zs.all λz=>z !=i)&&Region.free md ops listed i&&(Region.ready md ops listed).contains i)=true:=by kernel_rfl)
 (hQ:∀ c a w,Q (.panic c) (a.put oi.dst undef) w->Q (.panic c) a w:=by exact λ_ _ _ h=>h)
 (hg:Region.wanted oi (yielded ops a.tmps)=false:=by rfl)
 (hp:a.put oi.dst undef=a':=by (simp only [Act.put,AD1,AD5,AD2];rfl))
 (hl:listed.setIfInBounds i true=l':=by rfl):Ag P md ops Q S zs (fuel+1) listed a w:=by
 subst hp hl
 simp only [ADe] at hk
 exact A5 hi hk.1.1.1 hk.1.1.2 hk.1.2 hk.2 hQ (Or.inr ⟨hg,rfl⟩) (λ_=>hS) h
def tK (i:Nat) (oi:Oper) (hS:S w) (h:Ag P md ops Q S zs fuel l' a' w)
 (hi:ops[i]?=some oi:=by rfl) (hk:(Region.noSelect ops&&Ox md ops listed&&S4 md ops zs i&&Region.free md ops listed i&&(Region.ready md ops listed).contains i)=true:=by kernel_rfl)
 (hQ:∀ c a w,Q (.panic c) (a.put oi.dst v) w->Q (.panic c) a w:=by exact λ_ _ _ h=>h)
 (hg:Region.wanted oi (yielded ops a.tmps)=true:=by rfl) (hy:∀ w,S w->(execOp a.eval oi).run P w=.ok (.value v) w:=by (intro wz hSw;(try dsimp only at hSw);go_simp <;> with_reducible rfl))
 (hp:a.put oi.dst v=a':=by (simp only [Act.put,AD1,AD5,AD2];rfl))
 (hl:listed.setIfInBounds i true=l':=by rfl):Ag P md ops Q S zs (fuel+1) listed a w:=by
 subst hp hl
 simp only [ADe] at hk
 exact Tz hi hk.1.1.1.1 hk.1.1.1.2 hk.1.1.2 hk.1.2 hk.2 hQ (Or.inl ⟨hg,hy⟩) hS h
def cK (i:Nat) (oi:Oper) {f:FuncId} {args:Array Value} {R:World->Prop} 
 (hc:Calls P f args w λe w'=>e=.returned v/\R w') (hS:∀ w',R w'->S w') (h:∀ w',R w'->S w'->Ag P md ops Q S zs fuel l' a' w')
 (hr:Region.ready md ops listed=[i]:=by kernel_rfl) (hi:ops[i]?=some oi:=by rfl) (hg:Region.wanted oi (yielded ops a.tmps)=true:=by rfl)
 (hw:∀ K:Act->World->Prop,(Calls P f args w λe w'=>e=.returned v/\R w')->(∀ w',R w'->K (a.put oi.dst v) w')->Oper.wp P oi a w K Q:=by
  (intro K hc hK;go_simp;refine hc.mono ?_;rintro e w' ⟨rfl,hR⟩;exact hK _ hR))
 (hp:a.put oi.dst v=a':=by (simp only [Act.put,AD1,AD5,AD2];rfl))
 (hl:listed.setIfInBounds i true=l':=by rfl):Ag P md ops Q S zs (fuel+1) listed a w:=by
 subst hp hl
 refine AV hr (Bu hi λK' hK'=>?_)
 rw [AHi hg]
 exact hw K' hc λw' hR=>hK'.out _ _ (λ_=>hS w' hR) λ_=>h w' hR (hS w' hR)
end
end Go.Proofs.YtdlhlfpigcgapaaGreatDoor
namespace Go.Proofs.YtdlhlfpigcgapaaGreatDoor.Krn
open Go.Proofs.Tryz
open Go.ChangeShapes Go.WideShapes Go.ChangeAt Go.RowKit
open Mm
variable {u:World}
abbrev oR0:Oper:=⟨some 37,.move (.tmp 0),23, "request.go:141",#[],none⟩
abbrev oR1:Oper:=⟨some 38,.move (.tmp 0),23, "request.go:141",#[{ on:=21,ground:=Ground.gcOnly Departure.lateStores }],none⟩
abbrev oR2:Oper:=⟨some 39,.move (.tmp 0),23, "request.go:141",#[],none⟩
abbrev oR3:Oper:=⟨some 40,.nilCheck (.tmp 39),0, "request.go:141",#[⟨2,.data⟩],none⟩
abbrev oR4:Oper:=⟨some 41,.fieldAddr 68 (.tmp 40) 0,0, "request.go:141",#[⟨3,.data⟩],none⟩
abbrev oR5:Oper:=⟨some 42,.fieldAddr 66 (.tmp 41) 0,0, "request.go:141",#[⟨4,.data⟩],none⟩
abbrev oR6:Oper:=⟨some 43,.load 29 (.tmp 42),29, "request.go:141",#[⟨5,.data⟩],none⟩
abbrev oR7:Oper:=⟨some 44,.move (.tmp 2),3, "request.go:141",#[],none⟩
abbrev oR8:Oper:=⟨some 47,.move (.tmp 0),23, "request.go:141",#[],none⟩
abbrev oR9:Oper:=⟨some 48,.nilCheck (.tmp 47),0, "request.go:141",#[⟨10,.data⟩],none⟩
abbrev ACx:Oper:=⟨some 49,.fieldAddr 68 (.tmp 48) 0,0, "request.go:141",#[⟨11,.data⟩],none⟩
abbrev ACy:Oper:=⟨some 50,.fieldAddr 66 (.tmp 49) 1,0, "request.go:141",#[⟨12,.data⟩],none⟩
abbrev ACz:Oper:=⟨some 51,.load 29 (.tmp 50),29, "request.go:141",#[⟨13,.data⟩],none⟩
abbrev ADA:Oper:=⟨some 52,.move (.tmp 2),3, "request.go:141",#[],none⟩
abbrev iI:Oper:=⟨some 53,.buildSlice 122 1 #[(0,.tmp 52)],122, "request.go:141",#[⟨15,.data⟩],none⟩
abbrev iJ:Oper:=⟨some 54,.call { callee:=Callee.value (.func 20),args:=#[.tmp 51,.tmp 53],argTypes:=#[29,122] },29, "request.go:141",#[⟨14,.data⟩,⟨16,.data⟩,⟨9,.chain⟩],none⟩
abbrev iK:Oper:=⟨some 55,.nilCheck (.tmp 37),0, "request.go:141",#[⟨0,.data⟩,⟨0,.phase⟩,{ on:=1,ground:=Ground.textOnly Departure.lateStores },⟨2,.phase⟩,⟨3,.phase⟩,⟨4,.phase⟩,⟨5,.phase⟩,⟨6,.phase⟩,⟨7,.phase⟩,⟨8,.phase⟩,⟨9,.phase⟩,{ on:=10,ground:=Ground.textOnly Departure.lateStores },{ on:=11,ground:=Ground.textOnly Departure.lateStoresUnsure },{ on:=12,ground:=Ground.textOnly Departure.lateStoresUnsure },{ on:=13,ground:=Ground.textOnly Departure.lateStoresUnsure },⟨14,.phase⟩,{ on:=15,ground:=Ground.textOnly Departure.lateStores },{ on:=16,ground:=Ground.textOnly Departure.lateStoresUnsure },⟨17,.phase⟩],none⟩
abbrev iL:Oper:=⟨some 56,.fieldAddr 68 (.tmp 55) 0,0, "request.go:141",#[⟨18,.data⟩,⟨0,.phase⟩,{ on:=1,ground:=Ground.textOnly Departure.lateStores },⟨2,.phase⟩,⟨3,.phase⟩,⟨4,.phase⟩,⟨5,.phase⟩,⟨6,.phase⟩,⟨7,.phase⟩,⟨8,.phase⟩,⟨9,.phase⟩,{ on:=10,ground:=Ground.textOnly Departure.lateStores },{ on:=11,ground:=Ground.textOnly Departure.lateStoresUnsure },{ on:=12,ground:=Ground.textOnly Departure.lateStoresUnsure },{ on:=13,ground:=Ground.textOnly Departure.lateStoresUnsure },⟨14,.phase⟩,{ on:=15,ground:=Ground.textOnly Departure.lateStores },{ on:=16,ground:=Ground.textOnly Departure.lateStoresUnsure },⟨17,.phase⟩],none⟩
abbrev iM:Oper:=⟨some 57,.fieldAddr 66 (.tmp 56) 0,0, "request.go:141",#[⟨19,.data⟩,⟨0,.phase⟩,{ on:=1,ground:=Ground.textOnly Departure.lateStores },⟨2,.phase⟩,⟨3,.phase⟩,⟨4,.phase⟩,⟨5,.phase⟩,⟨6,.phase⟩,⟨7,.phase⟩,⟨8,.phase⟩,⟨9,.phase⟩,{ on:=10,ground:=Ground.textOnly Departure.lateStores },{ on:=11,ground:=Ground.textOnly Departure.lateStoresUnsure },{ on:=12,ground:=Ground.textOnly Departure.lateStoresUnsure },{ on:=13,ground:=Ground.textOnly Departure.lateStoresUnsure },⟨14,.phase⟩,{ on:=15,ground:=Ground.textOnly Departure.lateStores },{ on:=16,ground:=Ground.textOnly Departure.lateStoresUnsure },⟨17,.phase⟩],none⟩
abbrev iN:Oper:=⟨none,.store 29 (.tmp 57) (.tmp 46),0, "request.go:141",#[⟨20,.data⟩,⟨9,.data⟩,⟨17,.chain⟩,⟨0,.phase⟩,{ on:=1,ground:=Ground.textOnly Departure.lateStores },⟨2,.phase⟩,⟨3,.phase⟩,⟨4,.phase⟩,⟨5,.phase⟩,⟨6,.phase⟩,⟨7,.phase⟩,⟨8,.phase⟩,⟨9,.phase⟩,{ on:=10,ground:=Ground.textOnly Departure.lateStores },{ on:=11,ground:=Ground.textOnly Departure.lateStoresUnsure },{ on:=12,ground:=Ground.textOnly Departure.lateStoresUnsure },{ on:=13,ground:=Ground.textOnly Departure.lateStoresUnsure },⟨14,.phase⟩,{ on:=15,ground:=Ground.textOnly Departure.lateStores },{ on:=16,ground:=Ground.textOnly Departure.lateStoresUnsure },⟨17,.phase⟩],none⟩
abbrev iO:Oper:=⟨some 58,.nilCheck (.tmp 38),0, "request.go:141",#[⟨1,.data⟩,⟨0,.phase⟩,⟨1,.phase⟩,⟨2,.phase⟩,⟨3,.phase⟩,⟨4,.phase⟩,⟨5,.phase⟩,⟨6,.phase⟩,⟨7,.phase⟩,⟨8,.phase⟩,⟨9,.phase⟩,⟨10,.phase⟩,⟨11,.phase⟩,⟨12,.phase⟩,⟨13,.phase⟩,⟨14,.phase⟩,⟨15,.phase⟩,⟨16,.phase⟩,⟨17,.phase⟩,⟨18,.phase⟩,⟨19,.phase⟩,⟨20,.phase⟩,⟨21,.phase⟩],none⟩
abbrev iP:Oper:=⟨some 59,.fieldAddr 68 (.tmp 58) 0,0, "request.go:141",#[⟨22,.data⟩,⟨0,.phase⟩,⟨1,.phase⟩,⟨2,.phase⟩,⟨3,.phase⟩,⟨4,.phase⟩,⟨5,.phase⟩,⟨6,.phase⟩,⟨7,.phase⟩,⟨8,.phase⟩,⟨9,.phase⟩,⟨10,.phase⟩,⟨11,.phase⟩,⟨12,.phase⟩,⟨13,.phase⟩,⟨14,.phase⟩,⟨15,.phase⟩,⟨16,.phase⟩,⟨17,.phase⟩,⟨18,.phase⟩,⟨19,.phase⟩,⟨20,.phase⟩,⟨21,.phase⟩],none⟩
abbrev iQ:Oper:=⟨some 60,.fieldAddr 66 (.tmp 59) 1,0, "request.go:141",#[⟨23,.data⟩,⟨0,.phase⟩,⟨1,.phase⟩,⟨2,.phase⟩,⟨3,.phase⟩,⟨4,.phase⟩,⟨5,.phase⟩,⟨6,.phase⟩,⟨7,.phase⟩,⟨8,.phase⟩,⟨9,.phase⟩,⟨10,.phase⟩,⟨11,.phase⟩,⟨12,.phase⟩,⟨13,.phase⟩,⟨14,.phase⟩,⟨15,.phase⟩,⟨16,.phase⟩,⟨17,.phase⟩,⟨18,.phase⟩,⟨19,.phase⟩,⟨20,.phase⟩,⟨21,.phase⟩],none⟩
abbrev iR:Oper:=⟨none,.store 29 (.tmp 60) (.tmp 54),0, "request.go:141",#[⟨24,.data⟩,⟨17,.data⟩,⟨21,.chain⟩,⟨0,.phase⟩,⟨1,.phase⟩,⟨2,.phase⟩,⟨3,.phase⟩,⟨4,.phase⟩,⟨5,.phase⟩,⟨6,.phase⟩,⟨7,.phase⟩,⟨8,.phase⟩,⟨9,.phase⟩,⟨10,.phase⟩,⟨11,.phase⟩,⟨12,.phase⟩,⟨13,.phase⟩,⟨14,.phase⟩,⟨15,.phase⟩,⟨16,.phase⟩,⟨17,.phase⟩,⟨18,.phase⟩,⟨19,.phase⟩,⟨20,.phase⟩,⟨21,.phase⟩],none⟩
abbrev zB:Oper:=⟨some 46,.call { callee:=Callee.value (.func 20),args:=#[.tmp 43,.tmp 45],argTypes:=#[29,122] },29, "request.go:141",#[⟨6,.data⟩,⟨8,.data⟩],none⟩
abbrev ADB:Oper:=⟨some 45,.buildSlice 122 1 #[(0,.tmp 44)],122, "request.go:141",#[⟨7,.data⟩],none⟩
section
variable {B:Nat} {w0:World} {A:List (Nat×List Value×TypeId)} {a:KA} {m m':Nat} {S S':KS} {w w':World}
def rT (h:KX B w0 A a m S w) (c:Int) (hm:m+33<=1000000):
 Calls prog 183 #[.pointer (some ⟨a.k,0,none⟩),.int .i64 (3),.int .i64 (c)] w λe w'=>e=.returned (.bool true)/\KX B w0 A a (m+33) (home a.n (Hd S c)) w':=by
 have c0:=h.c0
 have c1:=h.c1
 have hon:=h.kb.2.1
 have hac:=h.kb.2.2
 have CW0:Hid (∀ u v,Row u v [c]->_):=λu v r=>Et S.on [c] v u hon (by simp) r
 have CW1:Hid (∀ u v,Row u v [c]->_):=λu v r=>Et S.ac [c] v u hac (by simp) r
 have RN:∀ u:World,Row (u.alloc (.cells #[.int .i64 c] 3)) (.slice (some ⟨u.heap.size,0,none⟩) 1 1) [c]:=λu=>OM u [c] 3 1 1 rfl
 have RA:∀ (u:World) (v:Value) (o:Obj),Row u v [c]->Row (u.alloc o) v [c]:=λu v o r=>r.AA ((Fr.refl u.heap.size [] u).alloc (ADW _) o) (ADW _)
 have R1:∀ u:World,u.heap=w.heap->Row (u.alloc (.cells #[.int .i64 c] 3)) (.slice (some ⟨w.heap.size,0,none⟩) 1 1) [c]:=λu e=>by have:=RN u;rwa [e] at this
 have R2:∀ u:World,u.heap=w.heap->Row ((u.alloc (.cells #[.int .i64 c] 3)).alloc (.cells #[.int .i64 c] 3)) (.slice (some ⟨w.heap.size,0,none⟩) 1 1) [c]:=λu e=>RA _ _ _ (R1 u e)
 have R3:∀ u:World,u.heap=w.heap->Row ((u.alloc (.cells #[.int .i64 c] 3)).alloc (.cells #[.int .i64 c] 3)) (.slice (some ⟨w.heap.size+1,0,none⟩) 1 1) [c]:=λu e=>by have:=RN (u.alloc (.cells #[.int .i64 c] 3));rwa [show (u.alloc (.cells #[.int .i64 c] 3)).heap.size=w.heap.size+1 by simp [e]] at this
 have A2:=(h.alloc (.cells #[.int .i64 c] 3)).alloc (.cells #[.int .i64 c] 3)
 have g20:=A2.fz 0
 have a20:=A2.c0
 have g21:=A2.fz 1
 have A3:=A2.lL (Gh S.on [c] hon)
 have g31:=A3.fz 1
 have a31:=A3.c1
 have A4:=(A3.XK (Gh S.ac [c] hac)).drew
 have HH:Hid (∀ v,v=_->Calls prog 241 #[.pointer (some ⟨a.k,0,none⟩)] v λe w'=>e=.returned (.tuple #[])/\KX B w0 A a (m+32) (home a.n (Hd S c)) w'):=λv e=>by rw [e];exact yZ A4 (by omega)
 generalize home a.n (Hd S c)=E at *
 have ne0:=World.new_ne w _ c0
 have ne1:=World.new_ne w _ c1
 generalize wl S.on [c]=x0 at *
 generalize wl S.ac [c]=x1 at *
 go_enter func183,ntmps183
 go_wp2_with fail
 refine Hf [21,25] (λw'=>w'.cell? ⟨a.k,0,none⟩=some (.int .u64 (S.on:Int))/\w'.cell? ⟨a.k,1,none⟩=some (.int .u64 (S.ac:Int))) (by kernel_rfl) (by go_keep) (λhHeld=>?_)
 refine pK 0 oR0 hHeld ?_
 refine pK 1 oR1 hHeld ?_
 refine pK 2 oR2 hHeld ?_
 refine pK 3 oR3 hHeld ?_
 refine pK 4 oR4 hHeld ?_
 refine pK 5 oR5 hHeld ?_
 refine tK 6 oR6 hHeld ?_
 refine pK 7 oR7 hHeld ?_
 refine pK 10 oR8 hHeld ?_
 refine pK 11 oR9 hHeld ?_
 refine pK 12 ACx hHeld ?_
 refine pK 13 ACy hHeld ?_
 refine tK 14 ACz hHeld ?_
 refine pK 15 ADA hHeld ?_
 refine Ns (i:=8) (j:=16) (by kernel_rfl) (Bu (o:=⟨some 45,.buildSlice 122 1 #[(0,.tmp 44)],122, "request.go:141",#[⟨7,.data⟩],none⟩) rfl (λK hK=>?_)) (Bu (o:=iI) rfl (λK hK=>?_))
 ·go_simp
  (try go_wp2_with fail)
  refine hK.out _ _ ?sa15 (λhHeld=>?ta15)
  case sa15=>(intro _;go_keep)
  replace hHeld:=hHeld (EI (by kernel_rfl))
  clear hK K
  try simp only [Act.put,AD1,AD5,AD2]
  refine Ns (i:=9) (j:=16) (by kernel_rfl) (Bu (o:=⟨some 46,.call { callee:=Callee.value (.func 20),args:=#[.tmp 43,.tmp 45],argTypes:=#[29,122] },29, "request.go:141",#[⟨6,.data⟩,⟨8,.data⟩],none⟩) rfl (λK hK=>?_)) (Bu (o:=iI) rfl (λK hK=>?_))
  ·go_simp
   refine (CW0.out _ _ ?_).mono ?_
   (first | exact R1 _ rfl | exact R2 _ rfl | exact R3 _ rfl)
   rintro e w2 ⟨rfl,rfl⟩
   (try go_wp2_with fail)
   refine hK.out _ _ ?sa16 (λhHeld=>?ta16)
   case sa16=>(intro _;go_keep)
   replace hHeld:=hHeld (EI (by kernel_rfl))
   clear hK K
   try simp only [Act.put,AD1,AD5,AD2]
   refine AV (i:=16) (by kernel_rfl) (Bu (o:=iI) rfl (λK hK=>?_))
   go_simp
   (try go_wp2_with fail)
   refine hK.out _ _ ?sa17 (λhHeld=>?ta17)
   case sa17=>(intro _;go_keep)
   replace hHeld:=hHeld (EI (by kernel_rfl))
   clear hK K
   try simp only [Act.put,AD1,AD5,AD2]
   refine AV (i:=17) (by kernel_rfl) (Bu (o:=iJ) rfl (λK hK=>?_))
   go_simp
   refine (CW1.out _ _ ?_).mono ?_
   (first | exact R1 _ rfl | exact R2 _ rfl | exact R3 _ rfl)
   rintro e w2 ⟨rfl,rfl⟩
   (try go_wp2_with fail)
   refine hK.out _ _ ?sa18 (λhHeld=>?ta18)
   case sa18=>(intro _;go_keep)
   replace hHeld:=hHeld (EI (by kernel_rfl))
   clear hK K
   try simp only [Act.put,AD1,AD5,AD2]
   refine pK 18 iK hHeld ?_
   refine pK 19 iL hHeld ?_
   refine pK 20 iM hHeld ?_
   refine AV (i:=21) (by kernel_rfl) (Bu (o:=iN) rfl (λK hK=>?_))
   go_simp
   (try go_wp2_with fail)
   refine hK.out _ _ ?sa22 (λhHeld=>?ta22)
   case sa22=>(intro hU;exact absurd hU (BK (by kernel_rfl)))
   clear hHeld hK K
   try simp only [Act.put,AD1,AD5,AD2]
   refine A5 (i:=22) (oi:=iO) (v:=?va23) rfl (by kernel_rfl) (by kernel_rfl) (by kernel_rfl) (by kernel_rfl) (λ_ _ _ h=>h) (Or.inl ⟨by rfl,?ha23⟩) (λh=>absurd h (BK (by kernel_rfl))) ?ra23
   case ha23=>(intro wz _;go_simp <;> with_reducible rfl)
   try simp only [Act.put,AD1,AD5,AD2]
   refine A5 (i:=23) (oi:=iP) (v:=?va24) rfl (by kernel_rfl) (by kernel_rfl) (by kernel_rfl) (by kernel_rfl) (λ_ _ _ h=>h) (Or.inl ⟨by rfl,?ha24⟩) (λh=>absurd h (BK (by kernel_rfl))) ?ra24
   case ha24=>(intro wz _;go_simp <;> with_reducible rfl)
   try simp only [Act.put,AD1,AD5,AD2]
   refine A5 (i:=24) (oi:=iQ) (v:=?va25) rfl (by kernel_rfl) (by kernel_rfl) (by kernel_rfl) (by kernel_rfl) (λ_ _ _ h=>h) (Or.inl ⟨by rfl,?ha25⟩) (λh=>absurd h (BK (by kernel_rfl))) ?ra25
   case ha25=>(intro wz _;go_simp <;> with_reducible rfl)
   try simp only [Act.put,AD1,AD5,AD2]
   refine AV (i:=25) (by kernel_rfl) (Bu (o:=iR) rfl (λK hK=>?_))
   go_simp
   (try go_wp2_with fail)
   refine hK.out _ _ ?sa26 (λhHeld=>?ta26)
   case sa26=>(intro hU;exact absurd hU (BK (by kernel_rfl)))
   clear hHeld hK K
   try simp only [Act.put,AD1,AD5,AD2]
   refine B6 (by kernel_rfl) ?_ _
   go_wp2_with fail
   refine (HH.out _ rfl).mono ?_
   rintro e w3 ⟨rfl,h3⟩
   go_wp2
   go_ret
   exact ⟨rfl,h3.more (by omega)⟩
  ·go_simp
   (try go_wp2_with fail)
   refine hK.out _ _ ?sa27 (λhHeld=>?ta27)
   case sa27=>(intro _;go_keep)
   replace hHeld:=hHeld (EI (by kernel_rfl))
   clear hK K
   try simp only [Act.put,AD1,AD5,AD2]
   refine AV (i:=9) (by kernel_rfl) (Bu (o:=zB) rfl (λK hK=>?_))
   go_simp
   refine (CW0.out _ _ ?_).mono ?_
   (first | exact R1 _ rfl | exact R2 _ rfl | exact R3 _ rfl)
   rintro e w2 ⟨rfl,rfl⟩
   (try go_wp2_with fail)
   refine hK.out _ _ ?sa28 (λhHeld=>?ta28)
   case sa28=>(intro _;go_keep)
   replace hHeld:=hHeld (EI (by kernel_rfl))
   clear hK K
   try simp only [Act.put,AD1,AD5,AD2]
   refine AV (i:=17) (by kernel_rfl) (Bu (o:=iJ) rfl (λK hK=>?_))
   go_simp
   refine (CW1.out _ _ ?_).mono ?_
   (first | exact R1 _ rfl | exact R2 _ rfl | exact R3 _ rfl)
   rintro e w2 ⟨rfl,rfl⟩
   (try go_wp2_with fail)
   refine hK.out _ _ ?sa29 (λhHeld=>?ta29)
   case sa29=>(intro _;go_keep)
   replace hHeld:=hHeld (EI (by kernel_rfl))
   clear hK K
   try simp only [Act.put,AD1,AD5,AD2]
   refine pK 18 iK hHeld ?_
   refine pK 19 iL hHeld ?_
   refine pK 20 iM hHeld ?_
   refine AV (i:=21) (by kernel_rfl) (Bu (o:=iN) rfl (λK hK=>?_))
   go_simp
   (try go_wp2_with fail)
   refine hK.out _ _ ?sa33 (λhHeld=>?ta33)
   case sa33=>(intro hU;exact absurd hU (BK (by kernel_rfl)))
   clear hHeld hK K
   try simp only [Act.put,AD1,AD5,AD2]
   refine A5 (i:=22) (oi:=iO) (v:=?va34) rfl (by kernel_rfl) (by kernel_rfl) (by kernel_rfl) (by kernel_rfl) (λ_ _ _ h=>h) (Or.inl ⟨by rfl,?ha34⟩) (λh=>absurd h (BK (by kernel_rfl))) ?ra34
   case ha34=>(intro wz _;go_simp <;> with_reducible rfl)
   try simp only [Act.put,AD1,AD5,AD2]
   refine A5 (i:=23) (oi:=iP) (v:=?va35) rfl (by kernel_rfl) (by kernel_rfl) (by kernel_rfl) (by kernel_rfl) (λ_ _ _ h=>h) (Or.inl ⟨by rfl,?ha35⟩) (λh=>absurd h (BK (by kernel_rfl))) ?ra35
   case ha35=>(intro wz _;go_simp <;> with_reducible rfl)
   try simp only [Act.put,AD1,AD5,AD2]
   refine A5 (i:=24) (oi:=iQ) (v:=?va36) rfl (by kernel_rfl) (by kernel_rfl) (by kernel_rfl) (by kernel_rfl) (λ_ _ _ h=>h) (Or.inl ⟨by rfl,?ha36⟩) (λh=>absurd h (BK (by kernel_rfl))) ?ra36
   case ha36=>(intro wz _;go_simp <;> with_reducible rfl)
   try simp only [Act.put,AD1,AD5,AD2]
   refine AV (i:=25) (by kernel_rfl) (Bu (o:=iR) rfl (λK hK=>?_))
   go_simp
   (try go_wp2_with fail)
   refine hK.out _ _ ?sa37 (λhHeld=>?ta37)
   case sa37=>(intro hU;exact absurd hU (BK (by kernel_rfl)))
   clear hHeld hK K
   try simp only [Act.put,AD1,AD5,AD2]
   refine B6 (by kernel_rfl) ?_ _
   go_wp2_with fail
   refine (HH.out _ rfl).mono ?_
   rintro e w3 ⟨rfl,h3⟩
   go_wp2
   go_ret
   exact ⟨rfl,h3.more (by omega)⟩
 ·go_simp
  (try go_wp2_with fail)
  refine hK.out _ _ ?sa38 (λhHeld=>?ta38)
  case sa38=>(intro _;go_keep)
  replace hHeld:=hHeld (EI (by kernel_rfl))
  clear hK K
  try simp only [Act.put,AD1,AD5,AD2]
  refine AV (i:=8) (by kernel_rfl) (Bu (o:=ADB) rfl (λK hK=>?_))
  go_simp
  (try go_wp2_with fail)
  refine hK.out _ _ ?sa39 (λhHeld=>?ta39)
  case sa39=>(intro _;go_keep)
  replace hHeld:=hHeld (EI (by kernel_rfl))
  clear hK K
  try simp only [Act.put,AD1,AD5,AD2]
  refine AV (i:=9) (by kernel_rfl) (Bu (o:=zB) rfl (λK hK=>?_))
  go_simp
  refine (CW0.out _ _ ?_).mono ?_
  (first | exact R1 _ rfl | exact R2 _ rfl | exact R3 _ rfl)
  rintro e w2 ⟨rfl,rfl⟩
  (try go_wp2_with fail)
  refine hK.out _ _ ?sa40 (λhHeld=>?ta40)
  case sa40=>(intro _;go_keep)
  replace hHeld:=hHeld (EI (by kernel_rfl))
  clear hK K
  try simp only [Act.put,AD1,AD5,AD2]
  refine AV (i:=17) (by kernel_rfl) (Bu (o:=iJ) rfl (λK hK=>?_))
  go_simp
  refine (CW1.out _ _ ?_).mono ?_
  (first | exact R1 _ rfl | exact R2 _ rfl | exact R3 _ rfl)
  rintro e w2 ⟨rfl,rfl⟩
  (try go_wp2_with fail)
  refine hK.out _ _ ?sa41 (λhHeld=>?ta41)
  case sa41=>(intro _;go_keep)
  replace hHeld:=hHeld (EI (by kernel_rfl))
  clear hK K
  try simp only [Act.put,AD1,AD5,AD2]
  refine pK 18 iK hHeld ?_
  refine pK 19 iL hHeld ?_
  refine pK 20 iM hHeld ?_
  refine AV (i:=21) (by kernel_rfl) (Bu (o:=iN) rfl (λK hK=>?_))
  go_simp
  (try go_wp2_with fail)
  refine hK.out _ _ ?sa45 (λhHeld=>?ta45)
  case sa45=>(intro hU;exact absurd hU (BK (by kernel_rfl)))
  clear hHeld hK K
  try simp only [Act.put,AD1,AD5,AD2]
  refine A5 (i:=22) (oi:=iO) (v:=?va46) rfl (by kernel_rfl) (by kernel_rfl) (by kernel_rfl) (by kernel_rfl) (λ_ _ _ h=>h) (Or.inl ⟨by rfl,?ha46⟩) (λh=>absurd h (BK (by kernel_rfl))) ?ra46
  case ha46=>(intro wz _;go_simp <;> with_reducible rfl)
  try simp only [Act.put,AD1,AD5,AD2]
  refine A5 (i:=23) (oi:=iP) (v:=?va47) rfl (by kernel_rfl) (by kernel_rfl) (by kernel_rfl) (by kernel_rfl) (λ_ _ _ h=>h) (Or.inl ⟨by rfl,?ha47⟩) (λh=>absurd h (BK (by kernel_rfl))) ?ra47
  case ha47=>(intro wz _;go_simp <;> with_reducible rfl)
  try simp only [Act.put,AD1,AD5,AD2]
  refine A5 (i:=24) (oi:=iQ) (v:=?va48) rfl (by kernel_rfl) (by kernel_rfl) (by kernel_rfl) (by kernel_rfl) (λ_ _ _ h=>h) (Or.inl ⟨by rfl,?ha48⟩) (λh=>absurd h (BK (by kernel_rfl))) ?ra48
  case ha48=>(intro wz _;go_simp <;> with_reducible rfl)
  try simp only [Act.put,AD1,AD5,AD2]
  refine AV (i:=25) (by kernel_rfl) (Bu (o:=iR) rfl (λK hK=>?_))
  go_simp
  (try go_wp2_with fail)
  refine hK.out _ _ ?sa49 (λhHeld=>?ta49)
  case sa49=>(intro hU;exact absurd hU (BK (by kernel_rfl)))
  clear hHeld hK K
  try simp only [Act.put,AD1,AD5,AD2]
  refine B6 (by kernel_rfl) ?_ _
  go_wp2_with fail
  refine (HH.out _ rfl).mono ?_
  rintro e w3 ⟨rfl,h3⟩
  go_wp2
  go_ret
  exact ⟨rfl,h3.more (by omega)⟩
end
section
variable {B:Nat} {w0:World} {A:List (Nat×List Value×TypeId)} {a:KA} {m m':Nat} {S S':KS} {w w':World}
def zC (h:KX B w0 A a m S w) (st c:Int) (hm:m+33<=1000000):
 Calls prog 183 #[.pointer (some ⟨a.k,0,none⟩),.int .i64 (st),.int .i64 (c)] w λe w'=>e=.returned (.bool (Ef a.n S st c).1)/\KX B w0 A a (m+33) (Ef a.n S st c).2 w':=by
 unfold Ef
 by_cases n0:st=0
 ·subst n0
  simp only [AHn]
  have Fe:=h.Fe
  have C:Hid (∀ _:Unit,_):=λ_=>Vc h
  generalize Em.Bg S.gs S.gl=y at *
  go_enter func183,ntmps183
  go_wp2_with fail
  refine (C.out ()).mono ?_
  rintro e w1 ⟨rfl,h1⟩
  go_wp2
  go_ret
  exact ⟨rfl,h1.more (by omega)⟩
 ·by_cases n1:st=1
  ·subst n1
   clear n0
   simp only [Int.reduceEq,AHm,AHn]
   have BJ:=h.BJ
   go_enter func183,ntmps183
   go_wp2_with fail
   refine (ME h c true).mono ?_
   rintro e w1 ⟨⟨x,rfl⟩,h1⟩
   go_wp2
   go_ret
   exact ⟨rfl,h1.more (by omega)⟩
  ·by_cases n2:st=2
   ·subst n2
    clear n0 n1
    simp only [Int.reduceEq,AHm,AHn]
    have Np:=h.Np
    go_enter func183,ntmps183
    go_wp2_with fail
    refine (Sx h c).mono ?_
    rintro e w1 ⟨rfl,h1⟩
    go_wp2
    go_ret
    exact ⟨rfl,h1.more (by omega)⟩
   ·by_cases n3:st=3
    ·subst n3
     clear n0 n1 n2
     simp only [Int.reduceEq,AHm,AHn]
     exact rT h c hm
    ·simp only [AHh n0,AHh n1,AHh n2,AHh n3]
     have q0:(st==0)=false:=by simpa using n0
     have q1:(st==1)=false:=by simpa using n1
     have q2:(st==2)=false:=by simpa using n2
     have q3:(st==3)=false:=by simpa using n3
     go_enter func183,ntmps183
     go_wp2
     go_ret
     exact ⟨rfl,h.more (by omega)⟩
def rU (h:KX B w0 A a m S w) (st c b:Int) (hc:-9223372036854775808<=c) (hm:m+33<=1000000):
 Calls prog 184 #[.pointer (some ⟨a.k,0,none⟩),.int .i64 (st),.int .i64 (c),.int .i64 (b)] w λe w'=>e=.returned (.bool (leave a.n S st c b).1)/\KX B w0 A a (m+33) (leave a.n S st c b).2 w':=by
 unfold leave
 by_cases n0:st=0
 ·subst n0
  simp only [AHn]
  have Fe:=h.Fe
  have C:Hid (∀ _:Unit,_):=λ_=>Vc h
  generalize Em.Bg S.gs S.gl=y at *
  go_enter func184,ntmps184
  go_wp2_with fail
  refine (C.out ()).mono ?_
  rintro e w1 ⟨rfl,h1⟩
  go_wp2
  go_ret
  exact ⟨rfl,h1.more (by omega)⟩
 ·by_cases n1:st=1
  ·subst n1
   clear n0
   simp only [Int.reduceEq,AHm,AHn]
   have c1:=h.c1
   have f1:=h.fz 1
   have hac:=h.kb.2.2
   have CL:Hid (∀ u,_):=λu=>Eu S.ac c u hac
   have H:=h.XK (x:=nt S.ac (bv c)) (DZ _ _)
   generalize nt S.ac (bv c)=x at *
   go_enter func184,ntmps184
   go_wp2_with fail
   refine (CL.out _).mono ?_
   rintro e w1 ⟨rfl,rfl⟩
   go_wp2
   go_ret
   exact ⟨rfl,H.more (by omega)⟩
  ·by_cases n2:st=2
   ·subst n2
    clear n0 n1
    simp only [Int.reduceEq,AHm,AHn]
    go_enter func184,ntmps184
    go_wp2_with fail
    refine (rS h c hc (by omega)).mono ?_
    rintro e w1 ⟨rfl,h1⟩
    go_wp2
    go_ret
    exact ⟨rfl,h1.more (by omega)⟩
   ·by_cases n3:st=3
    ·subst n3
     clear n0 n1 n2
     simp only [Int.reduceEq,AHm,AHn]
     have c5:=h.c5
     have C:Hid (∀ _:Unit,_):=λ_=>qL h c b
     generalize Tim.GQ a.n S.t c b=y at *
     go_enter func184,ntmps184
     go_wp2_with fail
     refine (C.out ()).mono ?_
     rintro e w1 ⟨rfl,h1⟩
     go_wp2
     go_ret
     exact ⟨by first | rfl | (cases hy:(y==0) <;> simp_all),h1.more (by omega)⟩
    ·by_cases n4:st=4
     ·subst n4
      clear n0 n1 n2 n3
      simp only [Int.reduceEq,AHm,AHn]
      have c8:=h.c8
      have C:Hid (∀ _:Unit,_):=λ_=>bD h c
      generalize Cm.Ry a.n S.wk c=y at *
      go_enter func184,ntmps184
      go_wp2_with fail
      refine (C.out ()).mono ?_
      rintro e w1 ⟨rfl,h1⟩
      go_wp2
      go_ret
      exact ⟨by first | rfl | (cases hy:(y==0) <;> simp_all),h1.more (by omega)⟩
     ·by_cases n5:st=5
      ·subst n5
       clear n0 n1 n2 n3 n4
       simp only [Int.reduceEq,AHm,AHn]
       have c9:=h.c9
       have C:Hid (∀ _:Unit,_):=λ_=>qW h c b
       generalize Cm.GQ S.cl c b=y at *
       go_enter func184,ntmps184
       go_wp2_with fail
       refine (C.out ()).mono ?_
       rintro e w1 ⟨rfl,h1⟩
       go_wp2
       go_ret
       exact ⟨by first | rfl | (cases hy:(y==0) <;> simp_all),h1.more (by omega)⟩
      ·by_cases n6:st=6
       ·subst n6
        clear n0 n1 n2 n3 n4 n5
        simp only [Int.reduceEq,AHm,AHn]
        go_enter func184,ntmps184
        go_wp2_with fail
        refine (bO h c b hc).mono ?_
        rintro e w1 ⟨rfl,h1⟩
        go_wp2
        go_ret
        exact ⟨rfl,h1.more (by omega)⟩
       ·by_cases n7:st=7
        ·subst n7
         clear n0 n1 n2 n3 n4 n5 n6
         simp only [Int.reduceEq,AHm,AHn]
         have Np:=h.Np
         go_enter func184,ntmps184
         go_wp2_with fail
         refine (Sx h c).mono ?_
         rintro e w1 ⟨rfl,h1⟩
         go_wp2
         go_ret
         exact ⟨rfl,h1.more (by omega)⟩
        ·by_cases n8:st=8
         ·subst n8
          clear n0 n1 n2 n3 n4 n5 n6 n7
          simp only [Int.reduceEq,AHm,AHn]
          have Ge:=h.Ge
          go_enter func184,ntmps184
          go_wp2_with fail
          refine (rC h c b).mono ?_
          rintro e w1 ⟨rfl,h1⟩
          go_wp2
          go_ret
          exact ⟨rfl,h1.more (by omega)⟩
         ·by_cases n9:st=9
          ·subst n9
           clear n0 n1 n2 n3 n4 n5 n6 n7 n8
           simp only [Int.reduceEq,AHm,AHn]
           have c0:=h.c0
           have f0:=h.fz 0
           have CL:Hid (∀ u,_):=λu=>Eu S.on c u h.kb.2.1
           have H:=h.lL (x:=nt S.on (bv c)) (DZ _ _)
           have BJ:=H.BJ
           generalize nt S.on (bv c)=x at *
           go_enter func184,ntmps184
           go_wp2_with fail
           refine (CL.out _).mono ?_
           rintro e w1 ⟨rfl,rfl⟩
           go_wp2_with fail
           refine (ME H c false).mono ?_
           rintro e w1 ⟨⟨x2,rfl⟩,h1⟩
           go_wp2
           go_ret
           exact ⟨rfl,h1.more (by omega)⟩
          ·simp only [AHh n0,AHh n1,AHh n2,AHh n3,AHh n4,AHh n5,AHh n6,AHh n7,AHh n8,AHh n9]
           have q0:(st==0)=false:=by simpa using n0
           have q1:(st==1)=false:=by simpa using n1
           have q2:(st==2)=false:=by simpa using n2
           have q3:(st==3)=false:=by simpa using n3
           have q4:(st==4)=false:=by simpa using n4
           have q5:(st==5)=false:=by simpa using n5
           have q6:(st==6)=false:=by simpa using n6
           have q7:(st==7)=false:=by simpa using n7
           have q8:(st==8)=false:=by simpa using n8
           have q9:(st==9)=false:=by simpa using n9
           go_enter func184,ntmps184
           go_wp2
           go_ret
           exact ⟨rfl,h.more (by omega)⟩
end
section
variable {B:Nat} {w0:World} {A:List (Nat×List Value×TypeId)} {a:KA} {m m':Nat} {S S':KS} {w w':World}
def rc (r:Rec):List Value:=[.int .i64 r.kind,.int .i64 r.cpu,.int .i64 r.id,.int .i64 r.n,.int .i64 r.why]
def Rr (X:List (Nat×List Value×TypeId)) (v:Value) (L:List Rec):Prop:=
 (X=[]/\L=[]/\v=.slice none 0 0)\/∃ b r,X=[(b,rc r,37)]/\L=[r]/\v=.slice (some ⟨b,0,none⟩) 1 1
def zD (S:KS):Hp.Bq (AZ S).R=Hp.Bq S.R:=by
 unfold AZ Hp.NT
 simp only
 cases S.R with
 | none=>rfl
 | some r=>
  simp only [Hp.Bq,Hp.IF]
  split <;> rfl
def Rr.none:Rr [] (.slice none 0 0) []:=Or.inl ⟨rfl,rfl,rfl⟩
def KX.Am (h:KX B w0 A a m S w) (r:Rec):KX B w0 ([(w.heap.size,rc r,37)]++A) a m S (w.alloc (.cells (rc r).toArray 37))/\Rr [(w.heap.size,rc r,37)] (.slice (some ⟨w.heap.size,0,none⟩) 1 1) [r]:=
 ⟨h.new (rc r) 37,Or.inr ⟨_,r,rfl,rfl,rfl⟩⟩
def ADC (h:KX B w0 A a m S w) (k:Int) (u f:Bool) (hc:-9223372036854775808<=Hp.Bq S.R) (hm:m+33<=1000000):
 Calls prog 122 #[.pointer (some ⟨a.k,0,none⟩),.agg #[.int .i64 k,.bool u,.bool f]] w λe w'=>e=.returned (.bool (He a.n S k u).1)/\KX B w0 A a (m+33) (He a.n S k u).2 w':=by
 unfold He
 cases u
 ·simp only [AD3,AHm]
  have h0:=h.new [.int .i64 k,.bool false,.bool f] 250
  have a12:=h0.AN
  have C1:Hid (∀ v,Sm v (w.alloc (.cells #[.int .i64 k,.bool false,.bool f] 250))->_):=λv s=>IY (h0.sm s)
  have C2:Hid (∀ v,KX B w0 ((w.heap.size,[.int .i64 k,.bool false,.bool f],250)::A) a m S v->_):=λv s=>Qr s
  have C3:Hid (∀ v,KX B w0 ((w.heap.size,[.int .i64 k,.bool false,.bool f],250)::A) a m S v->_):=λv s=>lK s
  generalize Hp.Bq S.R=c at *
  generalize Hp.cos S.R=b at *
  cases q:Hp.BC S.R
  ·rw [q] at C3
   simp only [AD3,AHm]
   go_enter func122,ntmps122
   go_wp2_with fail
   go_region_held3 (λw'=>w'.cell? ⟨a.k,12,none⟩=some (.pointer (some ⟨a.dk,0,none⟩))) (go_keep)
    (first | (go_at_call 125;refine (C1.out _ ?_).mono ?_;(exact ⟨rfl,rfl,rfl,rfl⟩);rintro e w1 ⟨rfl,h1⟩;have b12:=h1.AN) | (go_at_call 111;refine (C2.out _ ?_).mono ?_;(exact h1.sm ⟨rfl,rfl,rfl,rfl⟩);rintro e w2 ⟨rfl,h2⟩;have d12:=h2.AN;have d0:w2.cell? ⟨w.heap.size,0,none⟩=some (.int .i64 k):=h2.AC.cell 0;have d1:w2.cell? ⟨w.heap.size,1,none⟩=some (.bool false):=h2.AC.cell 1))
   go_wp2_with fail
   refine (C3.out _ ?_).mono ?_
   exact h2.sm ⟨rfl,rfl,rfl,rfl⟩
   rintro e w3 ⟨rfl,h3⟩
   obtain ⟨e0,e1⟩:=mC (b:=w.heap.size) h3.AC
   go_wp2_with fail
   refine (rU h3 k c b hc hm).mono ?_
   rintro e w4 ⟨rfl,h4⟩
   go_wp2
   go_ret
   exact ⟨rfl,h4.drop⟩
  ·rw [q] at C3
   simp only [AHn]
   go_enter func122,ntmps122
   go_wp2_with fail
   go_region_held3 (λw'=>w'.cell? ⟨a.k,12,none⟩=some (.pointer (some ⟨a.dk,0,none⟩))) (go_keep)
    (first | (go_at_call 125;refine (C1.out _ ?_).mono ?_;(exact ⟨rfl,rfl,rfl,rfl⟩);rintro e w1 ⟨rfl,h1⟩;have b12:=h1.AN) | (go_at_call 111;refine (C2.out _ ?_).mono ?_;(exact h1.sm ⟨rfl,rfl,rfl,rfl⟩);rintro e w2 ⟨rfl,h2⟩;have d12:=h2.AN;have d0:w2.cell? ⟨w.heap.size,0,none⟩=some (.int .i64 k):=h2.AC.cell 0;have d1:w2.cell? ⟨w.heap.size,1,none⟩=some (.bool false):=h2.AC.cell 1))
   go_wp2_with fail
   refine (C3.out _ ?_).mono ?_
   exact h2.sm ⟨rfl,rfl,rfl,rfl⟩
   rintro e w3 ⟨rfl,h3⟩
   obtain ⟨e0,e1⟩:=mC (b:=w.heap.size) h3.AC
   go_wp2_with fail
   refine (zC h3 k c hm).mono ?_
   rintro e w4 ⟨rfl,h4⟩
   go_wp2
   go_ret
   exact ⟨rfl,h4.drop⟩
 ·simp only [AHn]
  have h0:=h.new [.int .i64 k,.bool true,.bool f] 250
  have a12:=h0.AN
  have C1:Hid (∀ v,Sm v (w.alloc (.cells #[.int .i64 k,.bool true,.bool f] 250))->_):=λv s=>IY (h0.sm s)
  have C2:Hid (∀ v,KX B w0 ((w.heap.size,[.int .i64 k,.bool true,.bool f],250)::A) a m S v->_):=λv s=>Qr s
  have C3:Hid (∀ v,KX B w0 ((w.heap.size,[.int .i64 k,.bool true,.bool f],250)::A) a m S v->_):=λv s=>lK s
  generalize Hp.Bq S.R=c at *
  generalize Hp.cos S.R=b at *
  cases q:Hp.BC S.R
  ·rw [q] at C3
   simp only [AD3,AHm]
   go_enter func122,ntmps122
   go_wp2_with fail
   go_region_held3 (λw'=>w'.cell? ⟨a.k,12,none⟩=some (.pointer (some ⟨a.dk,0,none⟩))) (go_keep)
    (first | (go_at_call 125;refine (C1.out _ ?_).mono ?_;(exact ⟨rfl,rfl,rfl,rfl⟩);rintro e w1 ⟨rfl,h1⟩;have b12:=h1.AN) | (go_at_call 111;refine (C2.out _ ?_).mono ?_;(exact h1.sm ⟨rfl,rfl,rfl,rfl⟩);rintro e w2 ⟨rfl,h2⟩;have d12:=h2.AN;have d0:w2.cell? ⟨w.heap.size,0,none⟩=some (.int .i64 k):=h2.AC.cell 0;have d1:w2.cell? ⟨w.heap.size,1,none⟩=some (.bool true):=h2.AC.cell 1))
   go_wp2_with fail
   refine (C3.out _ ?_).mono ?_
   exact h2.sm ⟨rfl,rfl,rfl,rfl⟩
   rintro e w3 ⟨rfl,h3⟩
   obtain ⟨e0,e1⟩:=mC (b:=w.heap.size) h3.AC
   go_wp2_with fail
   refine (yY h3 k c).mono ?_
   rintro e w4 ⟨rfl,h4⟩
   go_wp2
   go_ret
   exact ⟨rfl,h4.drop.more (by omega)⟩
  ·rw [q] at C3
   simp only [AHn]
   go_enter func122,ntmps122
   go_wp2_with fail
   go_region_held3 (λw'=>w'.cell? ⟨a.k,12,none⟩=some (.pointer (some ⟨a.dk,0,none⟩))) (go_keep)
    (first | (go_at_call 125;refine (C1.out _ ?_).mono ?_;(exact ⟨rfl,rfl,rfl,rfl⟩);rintro e w1 ⟨rfl,h1⟩;have b12:=h1.AN) | (go_at_call 111;refine (C2.out _ ?_).mono ?_;(exact h1.sm ⟨rfl,rfl,rfl,rfl⟩);rintro e w2 ⟨rfl,h2⟩;have d12:=h2.AN;have d0:w2.cell? ⟨w.heap.size,0,none⟩=some (.int .i64 k):=h2.AC.cell 0;have d1:w2.cell? ⟨w.heap.size,1,none⟩=some (.bool true):=h2.AC.cell 1))
   go_wp2_with fail
   refine (C3.out _ ?_).mono ?_
   exact h2.sm ⟨rfl,rfl,rfl,rfl⟩
   rintro e w3 ⟨rfl,h3⟩
   obtain ⟨e0,e1⟩:=mC (b:=w.heap.size) h3.AC
   go_wp2_with fail
   refine (iH h3 k c).mono ?_
   rintro e w4 ⟨rfl,h4⟩
   go_wp2
   go_ret
   exact ⟨rfl,h4.drop.more (by omega)⟩
def ACN (h:KX B w0 A a m S w) (hc:-9223372036854775808<=Hp.Bq S.R) (hm:m+33<=1000000):
 Calls prog 78 #[.pointer (some ⟨a.k,0,none⟩)] w λe w'=>∃ v X,e=.returned v/\KX B w0 (X++A) a (m+33) (act a.n S).2 w'/\Rr X v (act a.n S).1:=by
 unfold act BP
 have AN:=h.AN
 have C1:Hid (∀ _:Unit,_):=λ_=>rF h
 by_cases qe:Hp.CV S.R=0
 ·cases qf:Hp.JO S.P S.R
  ·simp only [qe,and_self,AHn]
   rw [qe,qf] at C1
   have hc2:-9223372036854775808<=Hp.Bq (AZ S).R:=by rw [zD];exact hc
   have CD:Hid (∀ v A,KX B w0 A a m (AZ S) v->_):=λv A k=>ADC k (Hp.FZ S.R:Nat) (Hp.Fa S.R) false hc2 hm
   generalize ((Hp.FZ S.R:Nat):Int)=k at *
   generalize Hp.Fa S.R=u at *
   clear qe qf hc hc2
   generalize He a.n (AZ S) k u=d at *
   obtain ⟨d1,T⟩:=d
   simp only at *
   cases d1
   ·simp only [AD3,AHm]
    have CO:Hid (∀ v A,KX B w0 A a (m+33) T v->_):=λv A k=>K6 k
    have CC:Hid (∀ v A,KX B w0 A a (m+33) T v->_):=λv A k=>IY k
    have CE:Hid (∀ v A,KX B w0 A a (m+33) T v->_):=λv A k=>Nn k
    cases qo:Hp.NR T.R
    ·rw [qo] at CO
     simp only [AD3,AHm]
     go_enter func78,ntmps78
     go_wp2_with fail
     refine (C1.out ()).mono ?_
     rintro e w1 ⟨rfl,h1⟩
     have h2:=h1.new [.int .i64 k,.bool u,.bool false] 250
     have x12:=h2.AN
     have n0:(w1.alloc (.cells #[.int .i64 k,.bool u,.bool false] 250)).cell? ⟨w1.heap.size,0,none⟩=some (.int .i64 k):=h2.AC.cell 0
     go_wp2_with fail
     refine (CD.out _ _ h2).mono ?_
     rintro e w3 ⟨rfl,h3⟩
     have h4:=h3
     clear h3
     have x12:=h4.AN
     go_wp2_with fail
     refine (CO.out _ _ h4).mono ?_
     rintro e w5 ⟨rfl,h5⟩
     go_wp2
     go_ret
     exact ⟨_,[],rfl,h5.drop,Rr.none⟩
    ·rw [qo] at CO
     simp only [AHn]
     generalize Hp.Bq T.R=cc at *
     generalize Hp.Lc T.R=ew at *
     generalize Hp.Cy T.R=ee2 at *
     go_enter func78,ntmps78
     go_wp2_with fail
     refine (C1.out ()).mono ?_
     rintro e w1 ⟨rfl,h1⟩
     have h2:=h1.new [.int .i64 k,.bool u,.bool false] 250
     have x12:=h2.AN
     have n0:(w1.alloc (.cells #[.int .i64 k,.bool u,.bool false] 250)).cell? ⟨w1.heap.size,0,none⟩=some (.int .i64 k):=h2.AC.cell 0
     go_wp2_with fail
     refine (CD.out _ _ h2).mono ?_
     rintro e w3 ⟨rfl,h3⟩
     have h4:=h3
     clear h3
     have x12:=h4.AN
     go_wp2_with fail
     refine (CO.out _ _ h4).mono ?_
     rintro e w5 ⟨rfl,h5⟩
     have y12:=h5.AN
     go_wp2_with fail
     refine (CC.out _ _ h5).mono ?_
     rintro e w6 ⟨rfl,h6⟩
     have z12:=h6.AN
     go_wp2_with fail
     refine (CE.out _ _ h6).mono ?_
     rintro e w7 ⟨rfl,h7⟩
     have z13:=h7.Fe
     go_wp2_with fail
     refine (K7 h7).mono ?_
     rintro e w8 ⟨rfl,h8⟩
     go_wp2
     go_ret
     exact ⟨_,_,rfl,(h8.Am ⟨7,cc,0,0,ew⟩).1.sub (λy hy=>by simp only [ADr,AD0] at hy ⊢;rcases hy with e | e;exact Or.inl e;exact Or.inr (Or.inr e)),(h8.Am ⟨7,cc,0,0,ew⟩).2⟩
   ·simp only [AHn]
    have CN:Hid (∀ v A,KX B w0 A a (m+33) T v->_):=λv A k=>rE k
    generalize IS T=U at *
    have CO:Hid (∀ v A,KX B w0 A a (m+33) U v->_):=λv A k=>K6 k
    have CC:Hid (∀ v A,KX B w0 A a (m+33) U v->_):=λv A k=>IY k
    have CE:Hid (∀ v A,KX B w0 A a (m+33) U v->_):=λv A k=>Nn k
    cases qo:Hp.NR U.R
    ·rw [qo] at CO
     simp only [AD3,AHm]
     go_enter func78,ntmps78
     go_wp2_with fail
     refine (C1.out ()).mono ?_
     rintro e w1 ⟨rfl,h1⟩
     have h2:=h1.new [.int .i64 k,.bool u,.bool false] 250
     have x12:=h2.AN
     have n0:(w1.alloc (.cells #[.int .i64 k,.bool u,.bool false] 250)).cell? ⟨w1.heap.size,0,none⟩=some (.int .i64 k):=h2.AC.cell 0
     go_wp2_with fail
     refine (CD.out _ _ h2).mono ?_
     rintro e w3 ⟨rfl,h3⟩
     have x12':=h3.AN
     go_wp2_with fail
     refine (CN.out _ _ h3).mono ?_
     rintro e w4 ⟨rfl,h4⟩
     have x12:=h4.AN
     go_wp2_with fail
     refine (CO.out _ _ h4).mono ?_
     rintro e w5 ⟨rfl,h5⟩
     go_wp2
     go_ret
     exact ⟨_,[],rfl,h5.drop,Rr.none⟩
    ·rw [qo] at CO
     simp only [AHn]
     generalize Hp.Bq U.R=cc at *
     generalize Hp.Lc U.R=ew at *
     generalize Hp.Cy U.R=ee2 at *
     go_enter func78,ntmps78
     go_wp2_with fail
     refine (C1.out ()).mono ?_
     rintro e w1 ⟨rfl,h1⟩
     have h2:=h1.new [.int .i64 k,.bool u,.bool false] 250
     have x12:=h2.AN
     have n0:(w1.alloc (.cells #[.int .i64 k,.bool u,.bool false] 250)).cell? ⟨w1.heap.size,0,none⟩=some (.int .i64 k):=h2.AC.cell 0
     go_wp2_with fail
     refine (CD.out _ _ h2).mono ?_
     rintro e w3 ⟨rfl,h3⟩
     have x12':=h3.AN
     go_wp2_with fail
     refine (CN.out _ _ h3).mono ?_
     rintro e w4 ⟨rfl,h4⟩
     have x12:=h4.AN
     go_wp2_with fail
     refine (CO.out _ _ h4).mono ?_
     rintro e w5 ⟨rfl,h5⟩
     have y12:=h5.AN
     go_wp2_with fail
     refine (CC.out _ _ h5).mono ?_
     rintro e w6 ⟨rfl,h6⟩
     have z12:=h6.AN
     go_wp2_with fail
     refine (CE.out _ _ h6).mono ?_
     rintro e w7 ⟨rfl,h7⟩
     have z13:=h7.Fe
     go_wp2_with fail
     refine (K7 h7).mono ?_
     rintro e w8 ⟨rfl,h8⟩
     go_wp2
     go_ret
     exact ⟨_,_,rfl,(h8.Am ⟨7,cc,0,0,ew⟩).1.sub (λy hy=>by simp only [ADr,AD0] at hy ⊢;rcases hy with e | e;exact Or.inl e;exact Or.inr (Or.inr e)),(h8.Am ⟨7,cc,0,0,ew⟩).2⟩
  ·simp only [AE1,and_false,AHm]
   rw [qe,qf] at C1
   generalize ((Hp.FZ S.R:Nat):Int)=k at *
   generalize Hp.Fa S.R=u at *
   clear qe qf hc
   generalize AZ S=T at *
   have CO:Hid (∀ v A,KX B w0 A a (m+33) T v->_):=λv A k=>K6 k
   have CC:Hid (∀ v A,KX B w0 A a (m+33) T v->_):=λv A k=>IY k
   have CE:Hid (∀ v A,KX B w0 A a (m+33) T v->_):=λv A k=>Nn k
   cases qo:Hp.NR T.R
   ·rw [qo] at CO
    simp only [AD3,AHm]
    go_enter func78,ntmps78
    go_wp2_with fail
    refine (C1.out ()).mono ?_
    rintro e w1 ⟨rfl,h1⟩
    have h2:=h1.new [.int .i64 k,.bool u,.bool true] 250
    have x12:=h2.AN
    have h4:=h2.more (m':=m+33) (by omega)
    clear h2
    have x12:=h4.AN
    go_wp2_with fail
    refine (CO.out _ _ h4).mono ?_
    rintro e w5 ⟨rfl,h5⟩
    go_wp2
    go_ret
    exact ⟨_,[],rfl,h5.drop,Rr.none⟩
   ·rw [qo] at CO
    simp only [AHn]
    generalize Hp.Bq T.R=cc at *
    generalize Hp.Lc T.R=ew at *
    generalize Hp.Cy T.R=ee2 at *
    go_enter func78,ntmps78
    go_wp2_with fail
    refine (C1.out ()).mono ?_
    rintro e w1 ⟨rfl,h1⟩
    have h2:=h1.new [.int .i64 k,.bool u,.bool true] 250
    have x12:=h2.AN
    have h4:=h2.more (m':=m+33) (by omega)
    clear h2
    have x12:=h4.AN
    go_wp2_with fail
    refine (CO.out _ _ h4).mono ?_
    rintro e w5 ⟨rfl,h5⟩
    have y12:=h5.AN
    go_wp2_with fail
    refine (CC.out _ _ h5).mono ?_
    rintro e w6 ⟨rfl,h6⟩
    have z12:=h6.AN
    go_wp2_with fail
    refine (CE.out _ _ h6).mono ?_
    rintro e w7 ⟨rfl,h7⟩
    have z13:=h7.Fe
    go_wp2_with fail
    refine (K7 h7).mono ?_
    rintro e w8 ⟨rfl,h8⟩
    go_wp2
    go_ret
    exact ⟨_,_,rfl,(h8.Am ⟨7,cc,0,0,ew⟩).1.sub (λy hy=>by simp only [ADr,AD0] at hy ⊢;rcases hy with e | e;exact Or.inl e;exact Or.inr (Or.inr e)),(h8.Am ⟨7,cc,0,0,ew⟩).2⟩
 ·simp only [AHh (show ¬ (Hp.CV S.R=0/\Hp.JO S.P S.R=false) from λx=>qe x.1)]
  generalize ((Hp.FZ S.R:Nat):Int)=k at *
  generalize Hp.Fa S.R=u at *
  generalize Hp.JO S.P S.R=f at *
  generalize Hp.CV S.R=ee at *
  have qe2:(ee==0)=false:=by simpa using qe
  clear qe hc
  generalize AZ S=T at *
  have CO:Hid (∀ v A,KX B w0 A a (m+33) T v->_):=λv A k=>K6 k
  have CC:Hid (∀ v A,KX B w0 A a (m+33) T v->_):=λv A k=>IY k
  have CE:Hid (∀ v A,KX B w0 A a (m+33) T v->_):=λv A k=>Nn k
  cases qo:Hp.NR T.R
  ·rw [qo] at CO
   simp only [AD3,AHm]
   go_enter func78,ntmps78
   go_wp2_with fail
   refine (C1.out ()).mono ?_
   rintro e w1 ⟨rfl,h1⟩
   have h2:=h1.new [.int .i64 k,.bool u,.bool f] 250
   have x12:=h2.AN
   have h4:=h2.more (m':=m+33) (by omega)
   clear h2
   have x12:=h4.AN
   go_wp2_with fail
   refine (CO.out _ _ h4).mono ?_
   rintro e w5 ⟨rfl,h5⟩
   go_wp2
   go_ret
   exact ⟨_,[],rfl,h5.drop,Rr.none⟩
  ·rw [qo] at CO
   simp only [AHn]
   generalize Hp.Bq T.R=cc at *
   generalize Hp.Lc T.R=ew at *
   generalize Hp.Cy T.R=ee2 at *
   go_enter func78,ntmps78
   go_wp2_with fail
   refine (C1.out ()).mono ?_
   rintro e w1 ⟨rfl,h1⟩
   have h2:=h1.new [.int .i64 k,.bool u,.bool f] 250
   have x12:=h2.AN
   have h4:=h2.more (m':=m+33) (by omega)
   clear h2
   have x12:=h4.AN
   go_wp2_with fail
   refine (CO.out _ _ h4).mono ?_
   rintro e w5 ⟨rfl,h5⟩
   have y12:=h5.AN
   go_wp2_with fail
   refine (CC.out _ _ h5).mono ?_
   rintro e w6 ⟨rfl,h6⟩
   have z12:=h6.AN
   go_wp2_with fail
   refine (CE.out _ _ h6).mono ?_
   rintro e w7 ⟨rfl,h7⟩
   have z13:=h7.Fe
   go_wp2_with fail
   refine (K7 h7).mono ?_
   rintro e w8 ⟨rfl,h8⟩
   go_wp2
   go_ret
   exact ⟨_,_,rfl,(h8.Am ⟨7,cc,0,0,ew⟩).1.sub (λy hy=>by simp only [ADr,AD0] at hy ⊢;rcases hy with e | e;exact Or.inl e;exact Or.inr (Or.inr e)),(h8.Am ⟨7,cc,0,0,ew⟩).2⟩
end
section
variable {B:Nat} {w0:World} {A:List (Nat×List Value×TypeId)} {a:KA} {m m':Nat} {S S':KS} {w w':World}
def lR (h:KX B w0 A a m S w):a.k<w.heap.size:=by
 obtain ⟨⟨l,b⟩,_⟩:=h.kb
 exact b.lt
def KX.lS (h:KX B w0 A a m S w) (f:Below u.heap.size u w') (s:Sm u w):KX B w0 A a m S w':=(h.sm s).below f
def iS (h:KX B w0 A a m S w) (f:Below u.heap.size u w') (s:Sm u w) {v:Value} (c2:w.cell? ⟨a.k,2,none⟩=some v):w'.cell? ⟨a.k,2,none⟩=some v:=by
 have k:=lR h
 have e:u.heap=w.heap:=s.1
 rw [f.cell (p:=⟨a.k,2,none⟩) (by rw [e];exact k),<- c2]
 unfold World.cell?
 rw [e]
def iT (h:KX B w0 A a m S w) (c y t:Int) (hc:AJ a.n c=true) (hy:Cor.Co.Nf y=true) (ht:Cor.Co.AO t=true):
 Calls prog 118 #[.pointer (some ⟨a.co,0,none⟩),.int .i64 c,.int .i64 y,.int .i64 t] w λe w'=>(∃ x,e=.returned (.int .i64 x))/\KX B w0 A a m (En S c) w'/\∀ i,w'.cell? ⟨a.k,i,none⟩=w.cell? ⟨a.k,i,none⟩:=by
 obtain ⟨F,K,hB,hA⟩:=h.ex
 obtain ⟨g,Y,q,y0,l0,e0⟩:=K.p 13 (by omega)
 have ly:Y.length=a.n:=by rw [<- l0,<- y0,ADz]
 have k1:Cor.Co.Bt Y.length c=true:=by rw [ly];exact hc
 have kl:c.toNat<Y.length:=by
  obtain ⟨k,rfl,hk⟩:=Cor.Co.Cq k1
  simpa using hk
 have z1:zc S c=pi (Y.getD c.toNat Cor.Co.kz):=by unfold zc;rw [<- y0];exact No Y _
 refine (Cor.aS w c y t q).mono ?_
 rintro e w' ⟨rfl,t2,f⟩
 refine ⟨⟨_,rfl⟩,?_⟩
 have e1:(Cor.Co.FC Y c y t).map pi=(En S c).z:=by
  unfold Cor.Co.FC Cor.Co.Br En
  rw [AHi k1,hy,ht,I8 k1,z1]
  generalize Y.getD c.toNat Cor.Co.kz=x0
  obtain ⟨p,i,x2,x3,x4,x5⟩:=x0
  cases p <;> cases i <;> simp [pi]
  ·exact y0
  ·exact y0
  ·rw [<- y0]
   rfl
  ·exact y0
 have e2:AU 13 S (En S c):=by unfold En;split <;> simp [AU]
 have kz:a.k∉[g]:=by
  obtain ⟨_,_,ez⟩:=K.p 0 (by omega)
  have:=K.dis 0 13 (by omega) (by omega) (by omega) a.k (by rw [ez];simp)
  rw [e0] at this
  intro q
  exact this (ADV _ q)
 refine ⟨?_,λi=>f.cell (p:=⟨a.k,i,none⟩) (lR h) kz⟩
 exact h.AQ K hB hA 13 (by omega) ⟨g,_,t2,e1,by rw [<- e1,ADz];show (Cor.Co.FC Y c y t).length=_;unfold Cor.Co.FC;split <;> simp [ly],e0⟩ f (by rw [e0];simp) e2 (by omega)
def iU {x y:Int} (q:le x y=0):x<=lv x y/\lv x y<=1152921504606846976:=by
 unfold le at q
 unfold lv
 split at q
 ·simp at q
 ·split at q
  ·simp at q
  ·rename_i h1 h2
   rw [AHh h1,AHh h2]
   omega
def ACO (h:KX B w0 A a m S w) (c:Int):0<=Tim.Ph a.n S.t c/\Tim.Ph a.n S.t c<=1152921504606846976:=by
 obtain ⟨F,K,_⟩:=h.ex
 have t:=K.p 3 (by omega)
 simp only [Part] at t
 obtain ⟨sb,sg,tb,mb,SS,G,W,O,b,_⟩:=t
 unfold Tim.Ph
 split
 ·rename_i e
  obtain ⟨mp,V,q,_⟩:=b.ws c.toNat (by have:=e.1;have:=e.2;omega)
  unfold Tim.M8
  split
  ·omega
  ·rename_i x L hL
   exact q.tks x (by rw [hL];simp)
 ·omega
def zE (S:KS) (x:Int):wf (own S x):=by
 unfold own
 cases e:(Sl.li 32 S.O).find? λid=>(Ao S id).sleeps&&(Ao S id).timer==x with
 | none=>exact K3 (by simp) (by simp)
 | some y=>
  have:=AEG e
  unfold Sl.li at this
  obtain ⟨i,hi,rfl⟩:=AE6.1 this
  have:=ADk.1 (AD9.1 hi).1
  exact K3 (by simp;omega) (by simp;omega)
def bQ (h:KX B w0 A a m S w):
 Calls prog 75 #[.pointer (some ⟨a.k,0,none⟩)] w λe w'=>e=.returned (.int .i64 S.now)/\w'=w:=by
 have c5:=h.c5
 obtain ⟨F,K,hB,hA⟩:=h.ex
 have t:=K.p 3 (by omega)
 simp only [Part] at t
 have C:Hid (∀ _:Unit,_):=λ_=>Tim.Rk t
 have CA:Hid (∀ _:Unit,_):=λ_=>K8 a w
 clear h K hB hA t
 generalize S.now=y at *
 go_enter func75,ntmps75
 go_wp2_with fail
 refine (CA.out ()).mono ?_
 rintro e w1 ⟨rfl,rfl⟩
 go_wp2_with fail
 refine (C.out ()).mono ?_
 rintro e w1 ⟨rfl,rfl⟩
 go_wp2
 go_ret
 exact ⟨rfl,rfl⟩
def Oy (h:KX B w0 A a m S w) (c:Int):
 Calls prog 108 #[.pointer (some ⟨a.k,0,none⟩),.int .i64 (c)] w λe w'=>e=.returned (.tuple #[.int .i64 ((Bh S c).getD 0),.bool (Bh S c).isSome])/\KX B w0 A a m S w':=by
 unfold Bh
 have c7:=h.c7
 have CL:Hid (∀ _:Unit,_):=λ_=>lJ h c
 have LN:((Cl S c).length:Int)<=16:=by have:=Gj (Nm.on S.r c) 16;unfold Cl;omega
 obtain ⟨f,hf⟩:∃ f:Int->Bool,Hid (∀ k,f k=Bm.GR S.i k):=⟨_,λ_=>rfl⟩
 rw [show (λk=>Bm.GR S.i k)=f from (funext hf.out).symm]
 generalize Cl S c=L at *
 obtain ⟨R,hR⟩:∃ R:Option Int,Hid (R=L.find? f):=⟨_,rfl⟩
 rw [<- show R=L.find? f from hR.out]
 go_enter func108,ntmps108
 go_wp2_with fail
 refine (CL.out ()).mono ?_
 rintro e w1 ⟨v,Z,rfl,h1,rw1⟩
 obtain ⟨p,cap,rfl⟩:=rw1.shape
 go_wp2
 go_loopw [16] (λi wr=>∃ k:Nat,(k:Int)<=L.length/\i=.int .i64 (k:Int)/\KX B w0 (Z++A) a m S wr/\Hid (∀ j,j<k->f (L.getD j 0)=false)) (λi _=>L.length-(intOf i).toNat)
 case atStart=>exact ⟨0,by omega,rfl,h1,λj hj=>by omega⟩
 case round=>
  obtain ⟨k,hk,rfl,hr,no⟩:=hrel
  by_cases ck:(k:Int)<L.length
  ·obtain ⟨b,rfl,cc⟩:=rw1.cell hr (i:=k) (by omega)
   have c6:=hr.c6
   have G:Hid (∀ _:Unit,_):=λ_=>gV hr (L.getD k 0)
   rw [<- hf.out (L.getD k 0)] at G
   have NX:Hid (f (L.getD k 0)=false->∀ j,j<k+1->f (L.getD j 0)=false):=λq j hj=>by
    by_cases e:j=k
    ·rw [e];exact q
    ·exact no.out j (by omega)
   have HT:Hid (f (L.getD k 0)=true->R=some (L.getD k 0)):=λq=>by
    rw [hR.out,MF L f k (by omega) no.out q]
   generalize L.getD k 0=id at *
   generalize f id=fb at *
   cases fb
   ·have NX2:Hid _:=NX.out (by simp)
    clear NX HT
    go_wp2_with fail
    refine (G.out ()).mono ?_
    rintro e w2 ⟨rfl,h2⟩
    go_wp2
    go_roundw
    case rel=>exact ⟨k+1,by omega,by go_num,h2,NX2.out⟩
    case measure=>simp [intOf];omega
   ·have HT2:=HT.out (by simp)
    clear HT NX
    subst HT2
    go_wp2_with fail
    refine (G.out ()).mono ?_
    rintro e w2 ⟨rfl,h2⟩
    go_wp2
    go_ret2
    exact ⟨rfl,h2.sub λy hy=>ADb _ hy⟩
  ·have e1:k=L.length:=by omega
   have R0:R=none:=by rw [hR.out,QL L f (λj hj=>no.out j (by omega))]
   clear hR
   subst R0
   subst e1
   go_wp2
   go_ret2
   exact ⟨rfl,hr.sub λy hy=>ADb _ hy⟩
def zF (h:KX B w0 A a m S w) (c:Int) (hm:m<=1000000):
 Calls prog 131 #[.pointer (some ⟨a.k,0,none⟩),.int .i64 (c)] w λe w'=>e=.returned (.tuple #[.int .i64 (Bz a.n S c).1,.int .i64 (Bz a.n S c).2.1])/\KX B w0 A a (m+1) (Bz a.n S c).2.2 w':=by
 unfold Bz
 have c5:=h.c5
 have C:Hid (∀ _:Unit,_):=λ_=>qK h c
 have CO:Hid (∀ v,KX B w0 A a m (Ha a.n S c) v->_):=λv k=>Vo k (Tim.Pi a.n S.now S.t c)
 have hw:wf (Nj a.n S c):=zE (Ha a.n S c) _
 have CG:Hid (∀ v,KX B w0 A a m (Ha a.n S c) v->_):=λv k=>Gd k (Nj a.n S c)
 have GO':Hid (∀ v,KX B w0 A a m (Ha a.n S c) v->_):=λv k=>KH k (Nj a.n S c)
 rw [show own (Ha a.n S c) (Tim.Pi a.n S.now S.t c)=Nj a.n S c from rfl] at CO
 generalize Nj a.n S c=who at *
 generalize Tim.Pi a.n S.now S.t c=x at *
 generalize Tim.kN a.n S.now S.t c=xe at *
 generalize Ha a.n S c=T at *
 generalize hT:Ao T who=t at *
 obtain ⟨t0,t1,t2,t3,t4,t5⟩:=t
 simp only at *
 by_cases q:ER T who=0
 ·simp only [AHi q]
  rw [q] at CG
  go_enter func131,ntmps131
  go_wp2_with fail
  refine (C.out ()).mono ?_
  rintro e w1 ⟨rfl,h1⟩
  go_wp2_with fail
  refine (CO.out _ h1).mono ?_
  rintro e w2 ⟨rfl,h2⟩
  have c3:=h2.c3
  go_wp2_with fail
  refine (CG.out _ h2).mono ?_
  rintro e w3 ⟨rfl,h3⟩
  have g:=GO'.out _ h3
  have h4:=h3.new [.int .i64 t0,.int .u64 (t1:Int),.int .i64 t2,.bool t3,.bool t4,.int .i64 t5] 138
  go_wp2_with fail
  refine (Vn h4 who ⟨t0,t1,t2,t3,t4,t5⟩ hw (by show -9223372036854775808<=t2;omega) hm).mono ?_
  rintro e w5 ⟨rfl,h5⟩
  go_wp2
  go_ret2
  exact ⟨rfl,h5.drop⟩
 ·simp only [AHh q]
  generalize ER T who=ge at *
  have q2:(ge==0)=false:=by simpa using q
  go_enter func131,ntmps131
  go_wp2_with fail
  refine (C.out ()).mono ?_
  rintro e w1 ⟨rfl,h1⟩
  go_wp2_with fail
  refine (CO.out _ h1).mono ?_
  rintro e w2 ⟨rfl,h2⟩
  have c3:=h2.c3
  go_wp2_with fail
  refine (CG.out _ h2).mono ?_
  rintro e w3 ⟨rfl,h3⟩
  go_wp2
  go_ret2
  exact ⟨rfl,(h3.alloc _).more (by omega)⟩
def XN (h:KX B w0 A a m S w) (d:Int):
 Calls prog 297 #[.pointer (some ⟨a.k,0,none⟩),.int .i64 (d)] w λe w'=>e=.returned (.int .i64 (Ss d))/\KX B w0 A a m S w':=by
 unfold Ss
 obtain ⟨l,c2⟩:=h.c2
 have f2:=h.fz 2
 have H:=h.yT d
 by_cases q1:d<0
 ·simp only [AHi (Or.inl q1:d<0\/1073741824<d)]
  go_enter func297,ntmps297
  go_wp2
  go_ret
  exact ⟨rfl,h⟩
 ·by_cases q2:1073741824<d
  ·simp only [AHi (Or.inr q2:d<0\/1073741824<d)]
   go_enter func297,ntmps297
   go_wp2
   go_ret
   exact ⟨rfl,h⟩
  ·simp only [AHh (show ¬ (d<0\/1073741824<d) by omega)]
   go_enter func297,ntmps297
   go_wp2
   go_ret
   exact ⟨rfl,H⟩
def XO (h:KX B w0 A a m S w) (x y:Int):
 Calls prog 299 #[.pointer (some ⟨a.k,0,none⟩),.int .i64 (x),.int .i64 (y)] w λe w'=>e=.returned (.int .i64 (KD x y))/\KX B w0 A a m S w':=by
 have QK:=h.QK
 have n1:(1:Int)<=a.n:=by have:=h.n1;omega
 have n2:(a.n:Int)<=64:=by have:=h.n2;omega
 have CS:Hid (∀ v c,c<a.n->KX B w0 A a m S v->_):=λv c hc k=>yS k hc x y
 by_cases q:KD x y=0
 ·rw [q] at CS ⊢
  go_enter func299,ntmps299
  go_wp2
  go_loopw [16] (λi wr=>∃ k:Nat,(k:Int)<=a.n/\i=.int .i64 (k:Int)/\KX B w0 A a m S wr) (λi _=>a.n-(intOf i).toNat)
  case atStart=>exact ⟨0,by omega,rfl,h⟩
  case round=>
   obtain ⟨k,hk,rfl,hr⟩:=hrel
   by_cases ck:(k:Int)<a.n
   ·have gc:=Ow hr (c:=k) (by omega)
    go_wp2_with fail
    refine (CS.out _ k (by omega) hr).mono ?_
    rintro e w2 ⟨rfl,h2⟩
    go_wp2
    go_roundw
    case rel=>exact ⟨k+1,by omega,by go_num,h2⟩
    case measure=>simp [intOf];omega
   ·have e1:k=a.n:=by omega
    go_wp2
    go_ret
    exact ⟨rfl,hr⟩
 ·generalize KD x y=z at *
  have q2:(z==0)=false:=by simpa using q
  go_enter func299,ntmps299
  go_wp2
  go_loopw [16] (λi wr=>i=.int .i64 0/\KX B w0 A a m S wr) (λ_ _=>0)
  case atStart=>exact ⟨rfl,h⟩
  case round=>
   obtain ⟨rfl,hr⟩:=hrel
   have gc:=Ow hr (c:=0) (by omega)
   go_wp2_with fail
   refine (CS.out _ 0 (by omega) hr).mono ?_
   rintro e w2 ⟨rfl,h2⟩
   go_wp2
   go_ret
   exact ⟨rfl,h2⟩
def zG (h:KX B w0 A a m S w) (c:Int) (hc:AJ a.n c=true):
 Calls prog 77 #[.pointer (some ⟨a.k,0,none⟩),.int .i64 (c)] w λe w'=>e=.returned (.tuple #[])/\KX B w0 A a m (En S c) w':=by
 have c5:=h.c5
 have T:=h.AO
 have tT:Cor.Co.AO S.now=true:=by simp [Cor.Co.AO];omega
 have CN:Hid (∀ _:Unit,_):=λ_=>qM h c
 have b1:=ACO h c
 have CP:Hid (∀ v b,_):=λv b=>Idl.Sh S.now (Tim.Ph a.n S.t c) b v (by omega)
 have CW:Hid (∀ v,KX B w0 A a m S v->_):=λv k=>bQ k
 have CT:Hid (∀ v,_):=λv=>Idl.Nc v
 have CR:Hid (∀ v y,Cor.Co.Nf y=true->KX B w0 A a m S v->_):=λv y hy k=>iT k c y S.now hc hy tT
 generalize Tim.Ph a.n S.t c=due at *
 generalize Tim.kM a.n S.t c=ne at *
 generalize S.now=now at *
 generalize En S c=E at *
 have CH:Hid (∀ v u l tk,B9 Idl.wy v u Idl.wt->Calls prog 119 #[u,.int .i64 tk,.int .i64 l] v λe w'=>∃ y:Int,e=.returned (.int .i64 y)/\Cor.Co.Nf y=true/\w'=v):=λv u l tk r=>(Idl.Tx Idl.wt u tk l v r (by decide)).mono λe w' z=>by
  obtain ⟨⟨y,e1,c1⟩,e2⟩:=z
  refine ⟨(y:Int),e1,?_,e2⟩
  have:y<4:=by
   rcases c1 with ⟨q,_⟩ | ⟨_,q,_⟩
   ·omega
   ·exact q
  simp [Cor.Co.Nf]
  omega
 go_enter func77,ntmps77
 go_wp2_with fail
 refine (CN.out ()).mono ?_
 rintro e w1 ⟨rfl,h1⟩
 go_wp2_with fail
 refine (CW.out _ h1).mono ?_
 rintro e w2 ⟨rfl,rfl⟩
 obtain ⟨l,l2⟩:=h1.c2
 have BJ:=h1.BJ
 go_wp2_with fail
 refine (CP.out _ _).mono ?_
 rintro e w2 ⟨rfl,rfl⟩
 generalize Idl.Nb now due (ne==0)=tk at *
 go_wp2_with fail
 go_region_held3 (λw'=>w'.cell? ⟨a.k,15,none⟩=some (.pointer (some ⟨a.co,0,none⟩))/\w'.cell? ⟨a.k,2,none⟩=some (.int .i64 l)) (go_keep)
  (first | (go_at_call 120;refine (CT.out _).mono ?_;rintro e w3 ⟨v3,rfl,r3,f3⟩;have h3:=h1.lS f3 ⟨rfl,rfl,rfl,rfl⟩;have d15:=h3.BJ;have d2:=iS h1 f3 ⟨rfl,rfl,rfl,rfl⟩ l2;clear CT) | (go_at_call 119;refine (CH.out _ _ _ _ ?_).mono ?_;(exact r3);rintro e w4 ⟨y,rfl,wy,rfl⟩;clear CH) | (go_at_call 75;refine (CW.out _ ?_).mono ?_;(exact h3.sm ⟨rfl,rfl,rfl,rfl⟩);rintro e w4 ⟨rfl,rfl⟩) | (go_at_call 118;refine (CR.out _ y wy ?_).mono ?_;(exact h3.sm ⟨rfl,rfl,rfl,rfl⟩);rintro e w4 ⟨⟨x,rfl⟩,h4,k4⟩;have e15:=h4.BJ;have e2:=(k4 2).trans d2))
 go_wp2
 go_end0
 exact ⟨rfl,h4⟩
def iV (h:KX B w0 A a m S w) {c:Nat} (hc:c<a.n) (t:Int) (hm:m<=1000000):
 Calls prog 218 #[.pointer (some ⟨a.k,0,none⟩),.int .i64 ((c:Nat):Int),.pointer (some ⟨a.gs c,0,none⟩),.int .i64 (t)] w λe w'=>e=.returned (.tuple #[])/\KX B w0 A a (m+1) S w':=by
 have hk:AJ a.n (c:Int)=true:=by simp [AJ];omega
 have BJ:=h.BJ
 have CG:Hid (∀ _:Unit,_):=λ_=>bF h c hk
 have CT:Hid (∀ v,_):=λv=>Idl.Nc v
 obtain ⟨zp,zi⟩:∃ q,q=zc S (c:Int):=⟨_,rfl⟩
 obtain ⟨p,i⟩:=zp
 have HZ:Hid (zc S (c:Int)=(p,i)):=zi.symm
 clear zi
 cases p
 ·go_enter func218,ntmps218
  go_wp2_with fail
  refine (CG.out ()).mono ?_
  rintro e w1 ⟨x,rfl,hx,h1⟩
  obtain ⟨x0,x1,x2,x3,x4,x5⟩:=x
  simp only [pi,HZ.out,AEj] at hx
  obtain ⟨rfl,rfl⟩:=hx
  have h2:=h1.new [.bool false,.bool x1,.int .i64 x2,.int .i64 x3,.int .i64 x4,.int .i64 x5] 113
  have y15:=h2.BJ
  go_wp2
  refine bodyPost_ret (results_none rfl _ _ _) rfl ?_
  exact ⟨rfl,h2.drop.more (by omega)⟩
 ·cases i
  ·have CF:Hid (∀ v A,KX B w0 A a m S v->_):=λv A k=>rL k hc
   have CW:Hid (∀ v A y,KX B w0 A a m S v->_):=λv A y k=>rJ k (c:Int) t y hm
   go_enter func218,ntmps218
   go_wp2_with fail
   refine (CG.out ()).mono ?_
   rintro e w1 ⟨x,rfl,hx,h1⟩
   obtain ⟨x0,x1,x2,x3,x4,x5⟩:=x
   simp only [pi,HZ.out,AEj] at hx
   obtain ⟨rfl,rfl⟩:=hx
   have h2:=h1.new [.bool true,.bool false,.int .i64 x2,.int .i64 x3,.int .i64 x4,.int .i64 x5] 113
   have y15:=h2.BJ
   go_wp2_with fail
   refine (Vg h2 c hk).mono ?_
   rintro e w3 ⟨⟨u1,u2,rfl⟩,h3⟩
   go_wp2_with fail
   refine (Vh h3 hc u1 u2).mono ?_
   rintro e w4 ⟨⟨u3,u4,rfl⟩,h4⟩
   have y16:=h4.Vj
   have y1:w4.cell? ⟨w1.heap.size,1,none⟩=some (.bool false):=h4.AC.cell 1
   have y2:w4.cell? ⟨w1.heap.size,2,none⟩=some (.int .i64 x2):=h4.AC.cell 2
   go_wp2_with fail
   go_region_held3 (λw'=>w'.cell? ⟨a.k,16,none⟩=some (.pointer (some ⟨a.mt,0,none⟩))) (go_keep)
    (first | (go_at_call 275;refine (CF.out _ _ (h4.sm ?_)).mono ?_;(exact ⟨rfl,rfl,rfl,rfl⟩);rintro e w5 ⟨⟨fy,rfl⟩,h5⟩;have z16:=h5.Vj;clear CF) | (go_at_call 274;refine (CW.out _ _ _ (h5.sm ?_)).mono ?_;(exact ⟨rfl,rfl,rfl,rfl⟩);rintro e w6 ⟨⟨my,rfl⟩,h6⟩;have z17:=h6.Vj))
   go_wp2
   go_end0
   exact ⟨rfl,h6.drop⟩
  ·have CC:Hid (∀ v u y,B9 Idl.wy v u Idl.wt->_):=λv u y r=>Idl.aH Idl.wt u y 1 v r
   have CW:Hid (∀ v A y z,KX B w0 A a m S v->_):=λv A y z k=>rK k (c:Int) y t z hm
   go_enter func218,ntmps218
   go_wp2_with fail
   refine (CG.out ()).mono ?_
   rintro e w1 ⟨x,rfl,hx,h1⟩
   obtain ⟨x0,x1,x2,x3,x4,x5⟩:=x
   simp only [pi,HZ.out,AEj] at hx
   obtain ⟨rfl,rfl⟩:=hx
   have h2:=h1.new [.bool true,.bool true,.int .i64 x2,.int .i64 x3,.int .i64 x4,.int .i64 x5] 113
   have y15:=h2.BJ
   go_wp2_with fail
   refine (Vg h2 c hk).mono ?_
   rintro e w3 ⟨⟨u1,u2,rfl⟩,h3⟩
   go_wp2_with fail
   refine (Vh h3 hc u1 u2).mono ?_
   rintro e w4 ⟨⟨u3,u4,rfl⟩,h4⟩
   have y16:=h4.Vj
   have y1:w4.cell? ⟨w1.heap.size,1,none⟩=some (.bool true):=h4.AC.cell 1
   have y2:w4.cell? ⟨w1.heap.size,2,none⟩=some (.int .i64 x2):=h4.AC.cell 2
   go_wp2_with fail
   go_region_held3 (λw'=>w'.cell? ⟨a.k,16,none⟩=some (.pointer (some ⟨a.mt,0,none⟩))/\w'.cell? ⟨w1.heap.size,2,none⟩=some (.int .i64 x2)) (go_keep)
    (first | (go_at_call 120;refine (CT.out _).mono ?_;rintro e w5 ⟨v5,rfl,r5,f5⟩;have h5:=h4.lS f5 ⟨rfl,rfl,rfl,rfl⟩;have z16:=h5.Vj;have z2:w5.cell? ⟨w1.heap.size,2,none⟩=some (.int .i64 x2):=h5.AC.cell 2;clear CT) | (go_at_call 273;refine (CC.out _ _ _ ?_).mono ?_;(exact r5);rintro e w6 ⟨rfl,rfl⟩;clear CC) | (go_at_call 272;refine (CW.out _ _ _ _ (h5.sm ?_)).mono ?_;(exact ⟨rfl,rfl,rfl,rfl⟩);rintro e w7 ⟨⟨my,rfl⟩,h7⟩;have z17:=h7.Vj;have z18:w7.cell? ⟨w1.heap.size,2,none⟩=some (.int .i64 x2):=h7.AC.cell 2))
   go_wp2
   refine bodyPost_ret (results_none rfl _ _ _) rfl ?_
   exact ⟨rfl,h7.drop⟩
def zH (h:KX B w0 A a m S w) (d:Int) (hm:m+64<=1000000):
 Calls prog 155 #[.pointer (some ⟨a.k,0,none⟩),.int .i64 (d)] w λe w'=>e=.returned (.int .i64 (tick S d).1)/\KX B w0 A a (m+64) (tick S d).2 w':=by
 unfold tick
 have T:=h.AO
 have n1:(1:Int)<=a.n:=by have:=h.n1;omega
 have n2:(a.n:Int)<=64:=by have:=h.n2;omega
 have C:Hid (∀ _:Unit,_):=λ_=>lN h
 have L:Hid (∀ u,_):=λu=>Nq S.now d u T.1 T.2
 by_cases q:le S.now d=0
 ·simp only [AHi q]
  have lr:=iU q
  have ge:Tim.M6 S.now (lv S.now d)=0:=by unfold Tim.M6;rw [AHh (by omega)]
  have gn:Tim.M7 S.now (lv S.now d)=lv S.now d:=by unfold Tim.M7;rw [AHh (by omega)]
  have CGo:Hid (∀ v,KX B w0 A a (m+64) S v->_):=λv k=>ABx k (lv S.now d)
  rw [ge,gn] at CGo
  rw [q] at L
  generalize lv S.now d=z at *
  clear lr ge gn T q
  go_enter func155,ntmps155
  go_wp2_with fail
  refine (C.out ()).mono ?_
  rintro e w1 ⟨rfl,h1⟩
  go_wp2_with fail
  refine (L.out _).mono ?_
  rintro e w2 ⟨rfl,rfl⟩
  have QK:=h1.QK
  go_wp2
  go_loopw [25] (λi wr=>∃ k:Nat,(k:Int)<=a.n/\i=.int .i64 (k:Int)/\KX B w0 A a (m+k) S wr) (λi _=>a.n-(intOf i).toNat)
  case atStart=>exact ⟨0,by omega,rfl,h1⟩
  case round=>
   obtain ⟨k,hk,rfl,hr⟩:=hrel
   by_cases ck:(k:Int)<a.n
   ·have gc:=Ow hr (c:=k) (by omega)
    go_wp2_with fail
    refine (iV hr (c:=k) (by omega) d (by omega)).mono ?_
    rintro e w3 ⟨rfl,h3⟩
    go_wp2
    go_roundw
    case rel=>exact ⟨k+1,by omega,by go_num,h3⟩
    case measure=>simp [intOf];omega
   ·have e1:k=a.n:=by omega
    have hr2:=hr.more (m':=m+64) (by omega)
    have c5:=hr2.c5
    clear hr
    go_wp2_with fail
    refine (CGo.out _ hr2).mono ?_
    rintro e w3 ⟨rfl,h3⟩
    go_wp2
    go_ret
    exact ⟨rfl,h3⟩
 ·simp only [AHh q]
  generalize lv S.now d=z at *
  generalize le S.now d=x at *
  have q2:(x==0)=false:=by simpa using q
  go_enter func155,ntmps155
  go_wp2_with fail
  refine (C.out ()).mono ?_
  rintro e w1 ⟨rfl,h1⟩
  go_wp2_with fail
  refine (L.out _).mono ?_
  rintro e w2 ⟨rfl,rfl⟩
  go_wp2
  go_ret
  exact ⟨rfl,h1.more (by omega)⟩
end
section
variable {B:Nat} {w0:World} {A:List (Nat×List Value×TypeId)} {a:KA} {m m':Nat} {S S':KS} {w w':World}
def KX.AH {b:Nat} {cs:List Value} {t:TypeId} (h:KX B w0 ((b,cs,t)::A) a m S w) (ne:∀ x∈A,x.1≠b) (hb:B<=b) (i:Nat) (v:Value):KX B w0 ((b,cs.set i v,t)::A) a m S (w.setCell ⟨b,i,none⟩ v):=by
 obtain ⟨F,K,hB,hA⟩:=h.ex
 have f:Fr w.heap.size [b] w (w.setCell ⟨b,i,none⟩ v):=(Fr.refl _ _ _).setCell (Or.inr (by simp)) _
 have hs:=h.sz
 have h1:=h.b1
 have hz:∀ i,i<16->∀ g∈F i,g∉[b]:=λj hj g hg e=>by
  rw [ADu.1 e] at hg
  exact hA (b,cs,t) (by simp) j hj hg
 refine ⟨⟨F,⟨λj hj=>(K.p j hj).AA f (hz j hj) (K.lt j hj),K.dis,λj hj k hk=>AD7 (K.lt j hj k hk) f.size⟩,hB,λx hx j hj=>?_⟩,λx hx=>?_,?_,ADd hs f.size,h1,?_,h.n1,h.n2⟩
 ·rcases AD0.1 hx with rfl | hx
  ·exact hA (b,cs,t) (by simp) j hj
  ·exact hA x (ADV _ hx) j hj
 ·rcases AD0.1 hx with rfl | hx
  ·exact h.AC.set i v
  ·exact (h.bx x (ADV _ hx)).AA f (h.bx x (ADV _ hx)).lt (by simp;exact ne x hx)
 ·exact h.bel.trans ((f.less hs).below λk hk=>by rw [ADu.1 hk];exact hb)
 ·exact Df h.tab (by omega) f (by simp;omega)
def Hg {fn:Func} {p:Tmp} {ty:TypeId} (h:fn.results=#[.cell p ty]) (tmps:Array Value) (P:Program) (w:World):
 (results fn tmps).run P w=((asAddr (tmps.getD p undef)).run P w).andThen λa w₁=>(loadVar ty a).run P w₁:=by
 simp only [results,h]
 simp [Sem.run_bind,Result.andThen]
end
section
variable {B:Nat} {w0:World} {A:List (Nat×List Value×TypeId)} {a:KA} {m m':Nat} {S S':KS} {w w':World}
def Ia {z:Nat} {x:Rec} {tmps:Array Value} (h:AB w z [.int .i64 x.kind,.int .i64 x.cpu,.int .i64 x.id,.int .i64 x.n,.int .i64 x.why] 37) (h2:tmps.getD 6 undef=.pointer (some ⟨z,0,none⟩)):
 (results Tryz.f79 tmps).run prog w=.ok (.agg #[.int .i64 x.kind,.int .i64 x.cpu,.int .i64 x.id,.int .i64 x.n,.int .i64 x.why]) w:=by
 obtain ⟨q0,q1,q2,q3,q4⟩:=Aq (b:=z) h
 rw [Hg (p:=6) (ty:=37) rfl,h2]
 simp [go_sem,q0,q1,q2,q3,q4]
def iW (h:KX B w0 A a m S w) (c:Int):
 Calls prog 79 #[.pointer (some ⟨a.k,0,none⟩),.int .i64 (4),.int .i64 (c)] w λe w'=>e=.returned (.agg #[.int .i64 6,.int .i64 c,.int .i64 (Cm.LO S.cl c),.int .i64 0,.int .i64 0])/\KX B w0 A a m { BI S c with cl:=Cm.NH S.cl c } w':=by
 have Ge:∀ o,(w.alloc o).cell? ⟨a.k,11,none⟩=some (.pointer (some ⟨a.ct,0,none⟩)):=λo=>(h.alloc o).Ge
 have h0:=h.new [.int .i64 0,.int .i64 0,.int .i64 0,.int .i64 0,.int .i64 0] 37
 have ne0:∀ x∈A,x.1≠w.heap.size:=λx hx=>by have:=(h.bx x hx).lt;omega
 have CA:Hid (∀ _:Unit,_):=λ_=>KJ h0 c
 have CT:Hid (∀ v A,KX B w0 A a m (BI S c) v->_):=λv A k=>qV k c
 simp only [show (BI S c).cl=S.cl from rfl] at CT
 generalize Cm.LO S.cl c=id at *
 generalize Cm.kS S.cl c=ee at *
 go_enter func79,ntmps79
 go_wp2_with fail
 refine (CA.out ()).mono ?_
 rintro e w1 ⟨rfl,h1⟩
 have h3:=h1.new [.int .i64 6,.int .i64 c,.int .i64 0,.int .i64 0,.int .i64 0] 37
 have lt1:w.heap.size<w1.heap.size:=h1.AC.lt
 have ne1:∀ x∈((w.heap.size,[.int .i64 0,.int .i64 0,.int .i64 0,.int .i64 0,.int .i64 0],37)::A),x.1≠w1.heap.size:=λx hx=>by have:=(h1.bx x hx).lt;omega
 have nb1:w.heap.size≠w1.heap.size:=by omega
 have nb2:w1.heap.size≠w.heap.size:=by omega
 have nb3:(w.heap.size==w1.heap.size)=false:=by simp;omega
 have nb4:(w1.heap.size==w.heap.size)=false:=by simp;omega
 have hb1:B<=w1.heap.size:=h1.sz
 have c9:=h3.c9
 go_wp2_with fail
 refine (CT.out _ _ h3).mono ?_
 rintro e w4 ⟨rfl,h4⟩
 have fr:∀ j,w4.frozen? ⟨w1.heap.size,j,none⟩=false:=λj=>h4.AC.free j
 have fq:∀ j,w4.frozen? ⟨w.heap.size,j,none⟩=false:=λj=>h4.drop.AC.free j
 obtain ⟨r0,r1,r2,r3,r4⟩:=Aq (b:=w1.heap.size) h4.AC
 obtain ⟨z0,z1,z2,z3,z4⟩:=Aq (b:=w.heap.size) h4.drop.AC
 go_wp2
 have h8:=h4.AH ne1 hb1 2 (.int .i64 (id))
 have h9:=h8.drop
 have h9:=h9.AH ne0 h.sz 0 (.int .i64 6)
 have h9:=h9.AH ne0 h.sz 1 (.int .i64 c)
 have h9:=h9.AH ne0 h.sz 2 (.int .i64 (id))
 have h9:=h9.AH ne0 h.sz 3 (.int .i64 (0))
 have h9:=h9.AH ne0 h.sz 4 (.int .i64 0)
 exact bodyPost_ret (Ia (x:=⟨6,c,id,0,0⟩) h9.AC rfl) rfl ⟨rfl,h9.drop⟩
def iX (h:KX B w0 A a m S w) (c:Int):
 Calls prog 79 #[.pointer (some ⟨a.k,0,none⟩),.int .i64 (7),.int .i64 (c)] w λe w'=>e=.returned (.agg #[.int .i64 5,.int .i64 c,.int .i64 (Cm.LQ a.n S.wk c),.int .i64 0,.int .i64 0])/\KX B w0 A a m { BI S c with wk:=Cm.Rx a.n S.wk c } w':=by
 have Ge:∀ o,(w.alloc o).cell? ⟨a.k,11,none⟩=some (.pointer (some ⟨a.ct,0,none⟩)):=λo=>(h.alloc o).Ge
 have h0:=h.new [.int .i64 0,.int .i64 0,.int .i64 0,.int .i64 0,.int .i64 0] 37
 have ne0:∀ x∈A,x.1≠w.heap.size:=λx hx=>by have:=(h.bx x hx).lt;omega
 have CA:Hid (∀ _:Unit,_):=λ_=>KJ h0 c
 have CT:Hid (∀ v A,KX B w0 A a m (BI S c) v->_):=λv A k=>qQ k c
 simp only [show (BI S c).wk=S.wk from rfl] at CT
 generalize Cm.LQ a.n S.wk c=id at *
 generalize Cm.kV a.n S.wk c=ee at *
 go_enter func79,ntmps79
 go_wp2_with fail
 refine (CA.out ()).mono ?_
 rintro e w1 ⟨rfl,h1⟩
 have h3:=h1.new [.int .i64 5,.int .i64 c,.int .i64 0,.int .i64 0,.int .i64 0] 37
 have lt1:w.heap.size<w1.heap.size:=h1.AC.lt
 have ne1:∀ x∈((w.heap.size,[.int .i64 0,.int .i64 0,.int .i64 0,.int .i64 0,.int .i64 0],37)::A),x.1≠w1.heap.size:=λx hx=>by have:=(h1.bx x hx).lt;omega
 have nb1:w.heap.size≠w1.heap.size:=by omega
 have nb2:w1.heap.size≠w.heap.size:=by omega
 have nb3:(w.heap.size==w1.heap.size)=false:=by simp;omega
 have nb4:(w1.heap.size==w.heap.size)=false:=by simp;omega
 have hb1:B<=w1.heap.size:=h1.sz
 have c8:=h3.c8
 go_wp2_with fail
 refine (CT.out _ _ h3).mono ?_
 rintro e w4 ⟨rfl,h4⟩
 have fr:∀ j,w4.frozen? ⟨w1.heap.size,j,none⟩=false:=λj=>h4.AC.free j
 have fq:∀ j,w4.frozen? ⟨w.heap.size,j,none⟩=false:=λj=>h4.drop.AC.free j
 obtain ⟨r0,r1,r2,r3,r4⟩:=Aq (b:=w1.heap.size) h4.AC
 obtain ⟨z0,z1,z2,z3,z4⟩:=Aq (b:=w.heap.size) h4.drop.AC
 go_wp2
 have h8:=h4.AH ne1 hb1 2 (.int .i64 (id))
 have h9:=h8.drop
 have h9:=h9.AH ne0 h.sz 0 (.int .i64 5)
 have h9:=h9.AH ne0 h.sz 1 (.int .i64 c)
 have h9:=h9.AH ne0 h.sz 2 (.int .i64 (id))
 have h9:=h9.AH ne0 h.sz 3 (.int .i64 (0))
 have h9:=h9.AH ne0 h.sz 4 (.int .i64 0)
 exact bodyPost_ret (Ia (x:=⟨5,c,id,0,0⟩) h9.AC rfl) rfl ⟨rfl,h9.drop⟩
def iY (h:KX B w0 A a m S w) (c:Int):
 Calls prog 79 #[.pointer (some ⟨a.k,0,none⟩),.int .i64 (8),.int .i64 (c)] w λe w'=>e=.returned (.agg #[.int .i64 2,.int .i64 c,.int .i64 (Rqu.Jg a.n S.q c),.int .i64 0,.int .i64 0])/\KX B w0 A a m { BI S c with q:=Rqu.LH a.n S.q c } w':=by
 have Ge:∀ o,(w.alloc o).cell? ⟨a.k,11,none⟩=some (.pointer (some ⟨a.ct,0,none⟩)):=λo=>(h.alloc o).Ge
 have h0:=h.new [.int .i64 0,.int .i64 0,.int .i64 0,.int .i64 0,.int .i64 0] 37
 have ne0:∀ x∈A,x.1≠w.heap.size:=λx hx=>by have:=(h.bx x hx).lt;omega
 have CA:Hid (∀ _:Unit,_):=λ_=>KJ h0 c
 have CT:Hid (∀ v A,KX B w0 A a m (BI S c) v->_):=λv A k=>qJ k c
 simp only [show (BI S c).q=S.q from rfl] at CT
 generalize Rqu.Jg a.n S.q c=id at *
 generalize Rqu.Ya a.n S.q c=ee at *
 go_enter func79,ntmps79
 go_wp2_with fail
 refine (CA.out ()).mono ?_
 rintro e w1 ⟨rfl,h1⟩
 have h3:=h1.new [.int .i64 2,.int .i64 c,.int .i64 0,.int .i64 0,.int .i64 0] 37
 have lt1:w.heap.size<w1.heap.size:=h1.AC.lt
 have ne1:∀ x∈((w.heap.size,[.int .i64 0,.int .i64 0,.int .i64 0,.int .i64 0,.int .i64 0],37)::A),x.1≠w1.heap.size:=λx hx=>by have:=(h1.bx x hx).lt;omega
 have nb1:w.heap.size≠w1.heap.size:=by omega
 have nb2:w1.heap.size≠w.heap.size:=by omega
 have nb3:(w.heap.size==w1.heap.size)=false:=by simp;omega
 have nb4:(w1.heap.size==w.heap.size)=false:=by simp;omega
 have hb1:B<=w1.heap.size:=h1.sz
 have c4:=h3.c4
 go_wp2_with fail
 refine (CT.out _ _ h3).mono ?_
 rintro e w4 ⟨rfl,h4⟩
 have fr:∀ j,w4.frozen? ⟨w1.heap.size,j,none⟩=false:=λj=>h4.AC.free j
 have fq:∀ j,w4.frozen? ⟨w.heap.size,j,none⟩=false:=λj=>h4.drop.AC.free j
 obtain ⟨r0,r1,r2,r3,r4⟩:=Aq (b:=w1.heap.size) h4.AC
 obtain ⟨z0,z1,z2,z3,z4⟩:=Aq (b:=w.heap.size) h4.drop.AC
 go_wp2
 have h8:=h4.AH ne1 hb1 2 (.int .i64 (id))
 have h9:=h8.drop
 have h9:=h9.AH ne0 h.sz 0 (.int .i64 2)
 have h9:=h9.AH ne0 h.sz 1 (.int .i64 c)
 have h9:=h9.AH ne0 h.sz 2 (.int .i64 (id))
 have h9:=h9.AH ne0 h.sz 3 (.int .i64 (0))
 have h9:=h9.AH ne0 h.sz 4 (.int .i64 0)
 exact bodyPost_ret (Ia (x:=⟨2,c,id,0,0⟩) h9.AC rfl) rfl ⟨rfl,h9.drop⟩
def iZ (h:KX B w0 A a m S w) (c:Int):
 Calls prog 79 #[.pointer (some ⟨a.k,0,none⟩),.int .i64 (5),.int .i64 (c)] w λe w'=>e=.returned (.agg #[.int .i64 4,.int .i64 c,.int .i64 ((Bh S c).getD 0),.int .i64 0,.int .i64 0])/\KX B w0 A a m { BI S c with i:=Bm.A7 (Bm.Jn S.i ((Bh S c).getD 0)) S.i ((Bh S c).getD 0) { S.i ((Bh S c).getD 0).toNat with pd:=false } } w':=by
 have Ge:∀ o,(w.alloc o).cell? ⟨a.k,11,none⟩=some (.pointer (some ⟨a.ct,0,none⟩)):=λo=>(h.alloc o).Ge
 have h0:=h.new [.int .i64 0,.int .i64 0,.int .i64 0,.int .i64 0,.int .i64 0] 37
 have ne0:∀ x∈A,x.1≠w.heap.size:=λx hx=>by have:=(h.bx x hx).lt;omega
 have CA:Hid (∀ _:Unit,_):=λ_=>KJ h0 c
 have CT:Hid (∀ v A,KX B w0 A a m (BI S c) v->_):=λv A k=>Oy k c
 simp only [show Bh (BI S c) c=Bh S c from rfl] at CT
 have CC:Hid (∀ v A id,KX B w0 A a m (BI S c) v->_):=λv A id k=>gU k id
 generalize (Bh S c).getD 0=id at *
 generalize (Bh S c).isSome=ib at *
 go_enter func79,ntmps79
 go_wp2_with fail
 refine (CA.out ()).mono ?_
 rintro e w1 ⟨rfl,h1⟩
 have h3:=h1.new [.int .i64 4,.int .i64 c,.int .i64 0,.int .i64 0,.int .i64 0] 37
 have lt1:w.heap.size<w1.heap.size:=h1.AC.lt
 have ne1:∀ x∈((w.heap.size,[.int .i64 0,.int .i64 0,.int .i64 0,.int .i64 0,.int .i64 0],37)::A),x.1≠w1.heap.size:=λx hx=>by have:=(h1.bx x hx).lt;omega
 have nb1:w.heap.size≠w1.heap.size:=by omega
 have nb2:w1.heap.size≠w.heap.size:=by omega
 have nb3:(w.heap.size==w1.heap.size)=false:=by simp;omega
 have nb4:(w1.heap.size==w.heap.size)=false:=by simp;omega
 have hb1:B<=w1.heap.size:=h1.sz
 go_wp2_with fail
 refine (CT.out _ _ h3).mono ?_
 rintro e w4 ⟨rfl,h4⟩
 have fr:∀ j,w4.frozen? ⟨w1.heap.size,j,none⟩=false:=λj=>h4.AC.free j
 have fq:∀ j,w4.frozen? ⟨w.heap.size,j,none⟩=false:=λj=>h4.drop.AC.free j
 obtain ⟨r0,r1,r2,r3,r4⟩:=Aq (b:=w1.heap.size) h4.AC
 obtain ⟨z0,z1,z2,z3,z4⟩:=Aq (b:=w.heap.size) h4.drop.AC
 have h5:=h4.AH ne1 hb1 2 (.int .i64 id)
 have c6:=h5.c6
 have y2:=h5.AC.cell 2
 simp only [AD2,AD5,ADf,AEF] at y2
 go_wp2_with fail
 go_region_held3 (λw'=>w'.cell? ⟨a.k,6,none⟩=some (.pointer (some ⟨a.iq,0,none⟩))/\w'.cell? ⟨w1.heap.size,2,none⟩=some (.int .i64 id)) (go_keep)
  (first | (go_at_call 130;refine (CC.out _ _ id (h5.sm ?_)).mono ?_;(exact ⟨rfl,rfl,rfl,rfl⟩);rintro e w6 ⟨rfl,h6⟩;have d6:=h6.c6;have d2:=h6.AC.cell 2;simp only [AD2,AD5,ADf,AEF] at d2))
 have fr6:∀ j,w6.frozen? ⟨w1.heap.size,j,none⟩=false:=λj=>h6.AC.free j
 have fq6:∀ j,w6.frozen? ⟨w.heap.size,j,none⟩=false:=λj=>h6.drop.AC.free j
 obtain ⟨rr0,rr1,rr2,rr3,rr4⟩:=Aq (b:=w1.heap.size) h6.AC
 obtain ⟨zz0,zz1,zz2,zz3,zz4⟩:=Aq (b:=w.heap.size) h6.drop.AC
 go_wp2
 have h9:=h6.drop
 have h9:=h9.AH ne0 h.sz 0 (.int .i64 4)
 have h9:=h9.AH ne0 h.sz 1 (.int .i64 c)
 have h9:=h9.AH ne0 h.sz 2 (.int .i64 id)
 have h9:=h9.AH ne0 h.sz 3 (.int .i64 0)
 have h9:=h9.AH ne0 h.sz 4 (.int .i64 0)
 exact bodyPost_ret (Ia (x:=⟨4,c,id,0,0⟩) h9.AC rfl) rfl ⟨rfl,h9.drop⟩
def jA (h:KX B w0 A a m S w) (c:Int) (hm:m<=1000000):
 Calls prog 79 #[.pointer (some ⟨a.k,0,none⟩),.int .i64 (6),.int .i64 (c)] w λe w'=>e=.returned (.agg #[.int .i64 3,.int .i64 c,.int .i64 (Bz a.n (BI S c) c).1,.int .i64 (Bz a.n (BI S c) c).2.1,.int .i64 0])/\KX B w0 A a (m+1) (Bz a.n (BI S c) c).2.2 w':=by
 have Ge:∀ o,(w.alloc o).cell? ⟨a.k,11,none⟩=some (.pointer (some ⟨a.ct,0,none⟩)):=λo=>(h.alloc o).Ge
 have h0:=h.new [.int .i64 0,.int .i64 0,.int .i64 0,.int .i64 0,.int .i64 0] 37
 have ne0:∀ x∈A,x.1≠w.heap.size:=λx hx=>by have:=(h.bx x hx).lt;omega
 have CA:Hid (∀ _:Unit,_):=λ_=>KJ h0 c
 have CT:Hid (∀ v A,KX B w0 A a m (BI S c) v->_):=λv A k=>zF k c hm
 generalize Bz a.n (BI S c) c=r at *
 obtain ⟨id,nn,T⟩:=r
 simp only at *
 go_enter func79,ntmps79
 go_wp2_with fail
 refine (CA.out ()).mono ?_
 rintro e w1 ⟨rfl,h1⟩
 have h3:=h1.new [.int .i64 3,.int .i64 c,.int .i64 0,.int .i64 0,.int .i64 0] 37
 have lt1:w.heap.size<w1.heap.size:=h1.AC.lt
 have ne1:∀ x∈((w.heap.size,[.int .i64 0,.int .i64 0,.int .i64 0,.int .i64 0,.int .i64 0],37)::A),x.1≠w1.heap.size:=λx hx=>by have:=(h1.bx x hx).lt;omega
 have nb1:w.heap.size≠w1.heap.size:=by omega
 have nb2:w1.heap.size≠w.heap.size:=by omega
 have nb3:(w.heap.size==w1.heap.size)=false:=by simp;omega
 have nb4:(w1.heap.size==w.heap.size)=false:=by simp;omega
 have hb1:B<=w1.heap.size:=h1.sz
 go_wp2_with fail
 refine (CT.out _ _ h3).mono ?_
 rintro e w4 ⟨rfl,h4⟩
 have fr:∀ j,w4.frozen? ⟨w1.heap.size,j,none⟩=false:=λj=>h4.AC.free j
 have fq:∀ j,w4.frozen? ⟨w.heap.size,j,none⟩=false:=λj=>h4.drop.AC.free j
 obtain ⟨r0,r1,r2,r3,r4⟩:=Aq (b:=w1.heap.size) h4.AC
 obtain ⟨z0,z1,z2,z3,z4⟩:=Aq (b:=w.heap.size) h4.drop.AC
 go_wp2
 have h8:=h4.AH ne1 hb1 2 (.int .i64 (id))
 have h8:=h8.AH ne1 hb1 3 (.int .i64 (nn))
 have h9:=h8.drop
 have h9:=h9.AH ne0 h.sz 0 (.int .i64 3)
 have h9:=h9.AH ne0 h.sz 1 (.int .i64 c)
 have h9:=h9.AH ne0 h.sz 2 (.int .i64 (id))
 have h9:=h9.AH ne0 h.sz 3 (.int .i64 (nn))
 have h9:=h9.AH ne0 h.sz 4 (.int .i64 0)
 exact bodyPost_ret (Ia (x:=⟨3,c,id,nn,0⟩) h9.AC rfl) rfl ⟨rfl,h9.drop⟩
end
end Go.Proofs.YtdlhlfpigcgapaaGreatDoor.Krn

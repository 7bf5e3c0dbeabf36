import Derived.Test.YtdlhlfpigcgapaaGreatDoorAZal
import Derived.Test.YtdlhlfpigcgapaaGreatDoorAXa
import Derived.Laws.FloatArith
import Derived.Laws.Externs
import Derived.Laws.Bits64
import Derived.WalkLawsBesides
import Derived.Laws.MakeOwn
import Derived.Shelf.RegionOpenPlain
set_option maxRecDepth 100000
set_option maxHeartbeats 16000000
set_option linter.unusedVariables false
set_option linter.unusedSimpArgs false
set_option linter.defProp false
namespace Go.Proofs.YtdlhlfpigcgapaaGreatDoor.Met
open Go.Proofs.Tryz
open Go.ChangeShapes Go.WideShapes Go.ChangeAt Go.RowKit
namespace Mt
open Go.Proofs.Tryz
variable {β:Type} {B p t:Int}
structure Ac where
 e:Int
 wk:Int
 r:Nat->Int
def IH (r:Nat->Int):Int:=r 0+r 1+r 2+r 3+r 4+r 5+r 6+r 7
def tk (a:Ac):Int:=a.wk+IH a.r
def I7 (a:Ac) (j:Nat):Int:=if j=0 then a.e else if j=1 then tk a else a.r (j-2)
def BC (F:Nat->β) (k:Nat) (x:β):Nat->β:=λi=>if i=k then x else F i
def J0 (F:Nat->β) (k:Nat) (x:β):BC F k x k=x:=AHi rfl
def Zv (F:Nat->β) (k i:Nat) (x:β) (h:i≠k):BC F k x i=F i:=AHh h
def VO (F:Nat->β) (k:Nat) (x y:β):BC (BC F k x) k y=BC F k y:=by
 funext i
 unfold BC
 split <;> rfl
def za:Ac:=⟨0,0,λ_=>0⟩
def II (n:Int):Bool:=decide (0<=n)&&decide (n<=2147483648)
def BA (e t p:Int):Int:=if II t&&II p then if 4611686018427387904<e+t*p then 16 else 0 else 2
def J1 (a:Ac) (t p:Int):Ac:=⟨a.e+t*p,a.wk+t,a.r⟩
def rest (a:Ac) (m:Nat) (t p:Int):Ac:=⟨a.e+t*p,a.wk,BC a.r m (a.r m+t)⟩
def inr (n:Nat) (c:Int):Bool:=decide (0<=c)&&decide (c<(n:Int))
def Ax (n:Nat) (F:Nat->Ac) (c t p:Int):Int:=if inr n c then BA (F c.toNat).e t p else 3
def NV (n:Nat) (F:Nat->Ac) (c t p:Int):Nat->Ac:=if Ax n F c t p=0 then BC F c.toNat (J1 (F c.toNat) t p) else F
def Br (n:Nat) (F:Nat->Ac) (c m t p:Int):Int:=if inr n c&&inr 8 m then BA (F c.toNat).e t p else 3
def J2 (n:Nat) (F:Nat->Ac) (c m t p:Int):Nat->Ac:=if Br n F c m t p=0 then BC F c.toNat (rest (F c.toNat) m.toNat t p) else F
structure JP (a:Ac) (B:Int):Prop where
 e0:0<=a.e
 e1:a.e<=4611686018427387904
 w0:0<=a.wk
 r0:∀ j,0<=a.r j
 tb:tk a<=B
def NY (h1:II t=true) (h2:II p=true):0<=t/\t<=2147483648/\0<=t*p/\t*p<=4611686018427387904:=by
 simp only [II,ADe,decide_eq_true_eq] at h1 h2
 refine ⟨h1.1,h1.2,Int.mul_nonneg h1.1 h2.1,?_⟩
 have:=Int.mul_le_mul h1.2 h2.2 h2.1 (by omega)
 omega
def Zw (r:Nat->Int) (m:Nat) (t:Int) (hm:m<8):IH (BC r m (r m+t))=IH r+t:=by
 have:m=0\/m=1\/m=2\/m=3\/m=4\/m=5\/m=6\/m=7:=by omega
 rcases this with rfl | rfl | rfl | rfl | rfl | rfl | rfl | rfl <;> simp [IH,BC] <;> omega
def MB {e:Int} (h:BA e t p=0):II t=true/\II p=true/\e+t*p<=4611686018427387904:=by
 unfold BA at h
 cases h1:II t <;> cases h2:II p <;> simp only [h1,h2,Bool.and_self,Bool.and_true,AGB,AD3,AHn,AHm] at h <;> first | omega | skip
 split at h
 ·omega
 ·exact ⟨rfl,rfl,by omega⟩
def JP.J1 {a:Ac} (h:JP a B) (e:BA a.e t p=0):JP (J1 a t p) (B+2147483648):=by
 obtain ⟨h1,h2,h3⟩:=MB e
 obtain ⟨m1,m2,m3,m4⟩:=NY h1 h2
 have:=h.e0;have:=h.e1;have:=h.w0;have q:=h.tb
 unfold tk at q
 refine ⟨?_,?_,?_,h.r0,?_⟩
 ·show 0<=a.e+t*p;omega
 ·show a.e+t*p<=_;omega
 ·show 0<=a.wk+t;omega
 ·show a.wk+t+IH a.r<=_;omega
def JP.rest {a:Ac} {m:Nat} (h:JP a B) (hm:m<8) (e:BA a.e t p=0):JP (rest a m t p) (B+2147483648):=by
 obtain ⟨h1,h2,h3⟩:=MB e
 obtain ⟨m1,m2,m3,m4⟩:=NY h1 h2
 have:=h.e0;have:=h.e1;have:=h.w0;have q:=h.tb;have q0:=h.r0 m
 unfold tk at q
 refine ⟨?_,?_,h.w0,λj=>?_,?_⟩
 ·show 0<=a.e+t*p;omega
 ·show a.e+t*p<=_;omega
 ·show 0<=BC a.r m (a.r m+t) j
  unfold BC
  split
  ·omega
  ·exact h.r0 j
 ·show a.wk+IH (BC a.r m (a.r m+t))<=_
  rw [Zw _ _ _ hm];omega
def JP.mono {a:Ac} {C:Int} (h:JP a B) (l:B<=C):JP a C:=⟨h.e0,h.e1,h.w0,h.r0,Int.le_trans h.tb l⟩
def JQ (n:Nat) (F:Nat->Ac) (B:Int):Prop:=∀ k,k<n->JP (F k) B
def JQ.BC {n k:Nat} {F:Nat->Ac} {B C:Int} {a:Ac} (h:JQ n F B) (l:B<=C) (q:JP a C):JQ n (BC F k a) C:=λi hi=>by
 unfold Mt.BC
 split
 ·exact q
 ·exact (h i hi).mono l
def Fy {n:Nat} {c:Int} (h:inr n c=true):∃ k:Nat,c=(k:Int)/\k<n:=by
 simp only [inr,ADe,decide_eq_true_eq] at h
 exact ⟨c.toNat,by omega,by omega⟩
def JQ.NV {n:Nat} {F:Nat->Ac} {B:Int} (h:JQ n F B) (c t p:Int):JQ n (NV n F c t p) (B+2147483648):=by
 unfold Mt.NV
 split
 ·rename_i e
  unfold Ax at e
  split at e
  ·rename_i q
   obtain ⟨k,rfl,hk⟩:=Fy q
   exact h.BC (by omega) ((h k hk).J1 e)
  ·omega
 ·exact λk hk=>(h k hk).mono (by omega)
def JQ.J2 {n:Nat} {F:Nat->Ac} {B:Int} (h:JQ n F B) (c m t p:Int):JQ n (J2 n F c m t p) (B+2147483648):=by
 unfold Mt.J2
 split
 ·rename_i e
  unfold Br at e
  split at e
  ·rename_i q
   rw [ADe] at q
   obtain ⟨k,rfl,hk⟩:=Fy q.1
   obtain ⟨j,rfl,hj⟩:=Fy q.2
   exact h.BC (by omega) ((h k hk).rest hj e)
  ·omega
 ·exact λk hk=>(h k hk).mono (by omega)
end Mt
open Mt
def Cs (L:Ac->Nat->Int) (cs:List Value) (n:Nat) (F:Nat->Ac):Prop:=cs.length=n*10/\∀ k,k<n->∀ j,j<10->cs[k*10+j]?=some (.int .i64 (L (F k) j))
def xV {L:Ac->Nat->Int} {cs:List Value} {n:Nat} {F:Nat->Ac} (h:Cs L cs n F) (k j:Nat) (hk:k<n) (hj:j<10) (a:Ac) (x:Int) (h1:L a j=x) (h2:∀ i,i<10->i≠j->L a i=L (F k) i):
 Cs L (cs.set (k*10+j) (.int .i64 x)) n (BC F k a):=by
 refine ⟨by rw [AEU];exact h.1,λq hq i hi=>?_⟩
 rw [AD6]
 by_cases e:q=k
 ·subst e
  rw [J0]
  by_cases d:i=j
  ·subst d
   rw [AHi rfl,AHi (by have:=h.1;omega),h1]
  ·rw [AHh (by omega),h2 i hi d]
   exact h.2 q hq i hi
 ·rw [AHh (by omega),Zv _ _ _ _ e]
  exact h.2 q hq i hi
def RJ (L:Ac->Nat->Int) (n:Nat) (h:∀ j,L za j=0):Cs L (List.replicate (n*10) (.int .i64 0)) n λ_=>za:=
 ⟨by simp,λk hk j hj=>by rw [h,AEA,AHi (by omega)]⟩
structure MT (L:Ac->Nat->Int) (tm tc:TypeId) (w:World) (s g n:Nat) (F:Nat->Ac):Prop where
 sb:AB w s [.slice (some ⟨g,0,none⟩) n n] tm
 gb:∃ cs,AB w g cs tc/\Cs L cs n F
 ne:s≠g
 nn:n<=64
section
variable {L:Ac->Nat->Int} {tm tc:TypeId} {w w1:World} {s g n:Nat} {F:Nat->Ac}
def MT.heap (h:MT L tm tc w s g n F) (e:w1.heap=w.heap):MT L tm tc w1 s g n F:=by
 obtain ⟨cs,a,b⟩:=h.gb
 exact ⟨h.sb.heap e,⟨cs,a.heap e,b⟩,h.ne,h.nn⟩
def MT.slt (h:MT L tm tc w s g n F):s<w.heap.size:=h.sb.lt
def MT.Zx (h:MT L tm tc w s g n F):g<w.heap.size:=by obtain ⟨cs,a,_⟩:=h.gb;exact a.lt
def MT.AA {B:Nat} {S:List Nat} (h:MT L tm tc w s g n F) (f:Fr B S w w1) (hb:s<B) (gb:g<B) (hs:s∉S) (gs:g∉S):MT L tm tc w1 s g n F:=by
 obtain ⟨cs,a,b⟩:=h.gb
 exact ⟨h.sb.AA f hb hs,⟨cs,a.AA f gb gs,b⟩,h.ne,h.nn⟩
def MT.below (h:MT L tm tc w s g n F) (f:Below w.heap.size w w1):MT L tm tc w1 s g n F:=h.AA (Fr.AE f) h.slt h.Zx (by simp) (by simp)
def MT.Zy (h:MT L tm tc w s g n F):w.cell? ⟨s,0,none⟩=some (.slice (some ⟨g,0,none⟩) n n):=h.sb.cell 0
def MT.cell (h:MT L tm tc w s g n F) {k:Nat} (hk:k<n) (j:Nat) (hj:j<10):w.cell? ⟨g,k*10+j,none⟩=some (.int .i64 (L (F k) j)):=by
 obtain ⟨cs,a,b⟩:=h.gb
 rw [a.cell]
 exact b.2 k hk j hj
def MT.free (h:MT L tm tc w s g n F) (i:Nat):w.frozen? ⟨g,i,none⟩=false:=by
 obtain ⟨cs,a,_⟩:=h.gb
 exact a.free i
def MT.set (h:MT L tm tc w s g n F) {k:Nat} (hk:k<n) (j:Nat) (hj:j<10) (a:Ac) (x:Int) (h1:L a j=x) (h2:∀ i,i<10->i≠j->L a i=L (F k) i):MT L tm tc (w.setCell ⟨g,k*10+j,none⟩ (.int .i64 x)) s g n (BC F k a):=by
 obtain ⟨cs,b,c⟩:=h.gb
 exact ⟨h.sb.other h.ne _,⟨_,b.set _ _,xV c k j hk hj a x h1 h2⟩,h.ne,h.nn⟩
end
end Go.Proofs.YtdlhlfpigcgapaaGreatDoor.Met
namespace Go.Proofs.YtdlhlfpigcgapaaGreatDoor.Flo
open Go.Proofs.Tryz
open Met
end Go.Proofs.YtdlhlfpigcgapaaGreatDoor.Flo
namespace Go.Proofs.YtdlhlfpigcgapaaGreatDoor.Met
open Go.Proofs.Tryz
open Go.ChangeShapes Go.WideShapes Go.ChangeAt Go.RowKit
open Flo
open Mt
def PM:World->Nat->Nat->Nat->(Nat->Ac)->Prop:=MT I7 187 346
def Na (n:Int) (w:World):Calls prog 350 #[.int .i64 n] w λe w'=>e=.returned (.bool (II n))/\w'=w:=by
 unfold II
 by_cases h1:0<=n
 ·by_cases h2:n<=2147483648
  ·rw [AHj h1,AHj h2]
   go_enter func350,ntmps350
   go_wp2
   go_ret
   exact ⟨rfl,rfl⟩
  ·rw [AHj h1,AHk h2]
   go_enter func350,ntmps350
   go_wp2
   go_ret
   exact ⟨rfl,rfl⟩
 ·rw [AHk h1,AEm]
  go_enter func350,ntmps350
  go_wp2
  go_ret
  exact ⟨rfl,rfl⟩
def Z4 (n:Int) (w:World):Calls prog 325 #[.int .i64 n] w λe w'=>e=.returned (.bool (inr 8 n))/\w'=w:=by
 unfold inr
 by_cases h1:0<=n
 ·by_cases h2:n<8
  ·rw [AHj h1,AHj (by omega)]
   go_enter func325,ntmps325
   go_wp2
   go_ret
   exact ⟨rfl,rfl⟩
  ·rw [AHj h1,AHk (by omega)]
   go_enter func325,ntmps325
   go_wp2
   go_ret
   exact ⟨rfl,rfl⟩
 ·rw [AHk h1,AEm]
  go_enter func325,ntmps325
  go_wp2
  go_ret
  exact ⟨rfl,rfl⟩
def SY (a b:Int) (w:World) (ha:0<=a) (hb:0<=b) (h:a+b<=9223372036854775807):
 Calls prog 188 #[.int .i64 a,.int .i64 b] w λe w'=>e=.returned (.tuple #[.int .i64 (a+b),.int .i64 0])/\w'=w:=by
 have e1:wrap64 (a+b)=a+b:=by simp only [wrap64];omega
 have n1:¬ a+b<a:=by omega
 have n2:¬ b<0:=by omega
 obtain ⟨c,hc⟩:∃ c,a+b=c:=⟨_,rfl⟩
 have e2:wrap64 (a+b)=c:=e1.trans hc
 rw [hc] at n1 ⊢
 clear h ha hb hc e1
 by_cases h0:0<b
 ·go_enter func188,ntmps188
  go_wp2
  go_ret2
  exact ⟨rfl,rfl⟩
 ·go_enter func188,ntmps188
  go_wp2
  go_ret2
  exact ⟨rfl,rfl⟩
def Z5 (a b:Int) (w:World) (ha:0<=a) (hb:0<=b) (ha2:a<=4611686018427387904) (hb2:b<=4611686018427387904) (h:9223372036854775807<a+b):
 Calls prog 188 #[.int .i64 a,.int .i64 b] w λe w'=>e=.returned (.tuple #[.int .i64 0,.int .i64 16])/\w'=w:=by
 obtain ⟨c,hc⟩:∃ c,wrap64 (a+b)=c:=⟨_,rfl⟩
 have n1:c<a:=by rw [<- hc];simp only [wrap64];omega
 have n2:0<b:=by omega
 clear h ha hb ha2 hb2
 go_enter func188,ntmps188
 go_wp2
 go_ret2
 exact ⟨rfl,rfl⟩
def Tryz.xX:(prog.info? 346).map (λi=>(i.zero,i.size,i.bytes))=some (some (.agg (List.replicate 10 (.int .i64 0)).toArray),10,80):=by kernel_rfl
def fZ (n:Nat):madeCells (Value.agg (List.replicate 10 (.int .i64 0)).toArray).cells n=(List.replicate n (.int .i64 0)).toArray:=by
 have hz:(Value.agg (List.replicate 10 (Value.int .i64 0)).toArray).cells=(List.replicate 10 (.int .i64 0)).toArray:=rfl
 rw [hz]
 apply AFU
 ·simp [size_madeCells]
 ·intro i h1 h2
  have hm:i % 10<10:=AE8 _ (by omega)
  simp only [madeCells,Array.getElem_map,Array.getElem_range,AFq,List.getElem_replicate,AEY,AED]
  rw [getElem!_pos _ _ (by simpa using hm)]
  simp only [AFq,List.getElem_replicate]
def Sa (w:World) (s g n k:Nat) (F:Nat->Ac) (h:PM w s g n F) (hk:k<n):
 Calls prog 324 #[.pointer (some ⟨s,0,none⟩),.int .i64 (k:Int)] w λe w'=>e=.returned (.tuple #[.pointer (some ⟨g,k*10,none⟩),.int .i64 0])/\w'=w:=by
 have c0:=h.Zy
 have l1:(k:Int)<n:=by omega
 have l2:¬ (n:Int)<=k:=by omega
 clear h
 go_enter func324,ntmps324
 go_wp2
 go_ret2
 exact ⟨rfl,rfl⟩
def Sb (w:World) (s g n:Nat) (c:Int) (F:Nat->Ac) (h:PM w s g n F) (hk:inr n c=false):
 Calls prog 324 #[.pointer (some ⟨s,0,none⟩),.int .i64 c] w λe w'=>e=.returned (.tuple #[.pointer (some ⟨w.heap.size,0,none⟩),.int .i64 3])/\w'=w.alloc (.cells (List.replicate 10 (.int .i64 0)).toArray 346):=by
 have c0:=h.Zy
 by_cases l1:c<0
 ·clear h hk
  go_enter func324,ntmps324
  go_wp2
  go_ret2
  exact ⟨rfl,rfl⟩
 ·have l2:(n:Int)<=c:=by simp [inr] at hk;omega
  clear h hk
  go_enter func324,ntmps324
  go_wp2
  go_ret2
  exact ⟨rfl,rfl⟩
def Z6 (n:Nat) (w:World) (h1:(1:Int)<=n) (h2:(n:Int)<=64):
 Calls prog 37 #[.int .i64 (n:Int)] w λe w'=>e=.returned (.tuple #[.pointer (some ⟨w.heap.size+1,0,none⟩),.int .i64 0])/\PM w' (w.heap.size+1) w.heap.size n (λ_=>za)/\Below w.heap.size w w':=by
 obtain ⟨i0,hi,hz0,hz1,hz2⟩:=info_parts Tryz.xX
 have hm:=run_make (P:=prog) w 185 346 i0 _ underlying185 hi hz0 .i64 .i64 n n (by omega) (by omega) (by rw [hz2];omega) (by omega)
 rw [hz1,fZ,AD4] at hm
 have hj:Hid (Cs I7 (List.replicate (n*10) (.int .i64 0)) n λ_=>za):=RJ I7 n (λj=>by unfold I7;(repeat' split);all_goals rfl)
 have F:Hid (∀ o1 o2,Below w.heap.size w ((w.alloc o1).alloc o2)):=λo1 o2=>((Below.refl _ _).alloc (ADW _) o1).alloc (by simp) o2
 generalize List.replicate (n*10) (Value.int .i64 0)=Z at *
 clear hi hz0 hz1 hz2
 go_enter func37,ntmps37
 go_wp2
 go_ret2
 refine ⟨rfl,⟨?_,⟨Z,(AB.new w Z 346).alloc _,hj.out⟩,by omega,by omega⟩,F.out _ _⟩
 have:=AB.new (w.alloc (.cells Z.toArray 346)) [.slice (some ⟨w.heap.size,0,none⟩) n n] 187
 simpa using this
def xY {w:World} {g:Nat} (i:Nat) (u:Value):Fr w.heap.size [g] w (w.setCell ⟨g,i,none⟩ u):=(Fr.refl _ _ _).setCell (Or.inr (by simp)) u
def P9 (w:World) (s g n k:Nat) (F:Nat->Ac) (t p:Int) (h:PM w s g n F) (hk:k<n) (ok:JP (F k) 10000000000000000):
 Calls prog 326 #[.pointer (some ⟨g,k*10,none⟩),.int .i64 t,.int .i64 p] w λe w'=>e=.returned (.int .i64 (BA (F k).e t p))/\PM w' s g n (if BA (F k).e t p=0 then BC F k (J1 (F k) t p) else F)/\Fr w.heap.size [g] w w':=by
 have C1:Hid (∀ w,_):=λw=>Na t w
 have C2:Hid (∀ w,_):=λw=>Na p w
 have H:Hid (PM w s g n F):=h
 cases h1:II t with
 | false=>
  rw [show BA (F k).e t p=2 by unfold BA;rw [h1];rfl,AHh (by omega)]
  rw [h1] at C1
  clear h ok h1
  go_enter func326,ntmps326
  go_wp2_with fail
  refine (C1.out _).mono ?_
  rintro e w' ⟨rfl,rfl⟩
  go_wp2
  go_ret
  exact ⟨rfl,H.out,Fr.refl _ _ _⟩
 | true=>
  rw [h1] at C1
  cases h2:II p with
  | false=>
   rw [show BA (F k).e t p=2 by unfold BA;rw [h1,h2];rfl,AHh (by omega)]
   rw [h2] at C2
   clear h ok h1 h2
   go_enter func326,ntmps326
   go_wp2_with fail
   refine (C1.out _).mono ?_
   rintro e w' ⟨rfl,rfl⟩
   go_wp2_with fail
   refine (C2.out _).mono ?_
   rintro e w' ⟨rfl,rfl⟩
   go_wp2
   go_ret
   exact ⟨rfl,H.out,Fr.refl _ _ _⟩
  | true=>
   rw [h2] at C2
   obtain ⟨m1,m2,m3,m4⟩:=NY h1 h2
   have a1:=ok.e0
   have a2:=ok.e1
   have c0:w.cell? ⟨g,k*10,none⟩=some (.int .i64 (F k).e):=h.cell hk 0 (by omega)
   have c1:w.cell? ⟨g,k*10+1,none⟩=some (.int .i64 (tk (F k))):=h.cell hk 1 (by omega)
   have f0:w.frozen? ⟨g,k*10,none⟩=false:=h.free _
   have f1:w.frozen? ⟨g,k*10+1,none⟩=false:=h.free _
   have ad:BA (F k).e t p=if 4611686018427387904<(F k).e+t*p then 16 else 0:=by unfold BA;rw [h1,h2];rfl
   have tb:=ok.tb
   have t0:0<=tk (F k):=by
    have:=ok.w0
    have r:=ok.r0
    have:=r 0;have:=r 1;have:=r 2;have:=r 3;have:=r 4;have:=r 5;have:=r 6;have:=r 7
    unfold tk IH
    omega
   have tw:wrap64 (tk (F k)+t)=tk (F k)+t:=by simp only [wrap64];omega
   obtain ⟨x,hx⟩:∃ x,t*p=x:=⟨_,rfl⟩
   have ex:IntKind.i64.wrap (t*p)=x:=by rw [hx,IntKind.wrap_i64];omega
   have P2:Hid (∀ T,T=tk (F k)+t->PM ((w.setCell ⟨g,k*10,none⟩ (.int .i64 ((F k).e+x))).setCell ⟨g,k*10+1,none⟩ (.int .i64 T)) s g n (BC F k (J1 (F k) t p))):=λT hT=>by
    subst hT
    rw [<- hx]
    have s1:=h.set hk 0 (by omega) ⟨(F k).e+t*p,(F k).wk,(F k).r⟩ ((F k).e+t*p) rfl (λi hi hn=>by unfold I7;rw [AHh hn,AHh hn];rfl)
    have s2:=s1.set hk 1 (by omega) (J1 (F k) t p) (tk (F k)+t) (by show (F k).wk+t+IH (F k).r=(F k).wk+IH (F k).r+t;omega) (λi hi hn=>by
     rw [J0]
     unfold I7
     split
     ·rfl
     ·first | rfl | (rw [AHh hn,AHh hn];rfl))
    rw [VO] at s2
    exact s2
   rw [hx] at m3 m4 ad
   generalize (F k).e=E at *
   obtain ⟨T,hT⟩:∃ T,tk (F k)+t=T:=⟨_,rfl⟩
   replace tw:=tw.trans hT
   have P3:Hid (T=tk (F k)+t):=hT.symm
   clear hT
   generalize tk (F k)=T0 at *
   clear ok h1 h2 h hx tb t0 m1 m2
   by_cases q:4611686018427387904<E+x
   ·rw [AHi q] at ad
    rw [ad,AHh (by omega)]
    by_cases q2:E+x<=9223372036854775807
    ·have C3:Hid (∀ w,_):=λw=>SY E x w a1 m3 q2
     obtain ⟨y,hy⟩:∃ y,E+x=y:=⟨_,rfl⟩
     rw [hy] at C3 q
     clear q2 a1 a2 m3 m4 ad hy P2
     go_enter func326,ntmps326
     go_wp2_with fail
     refine (C1.out _).mono ?_
     rintro e w' ⟨rfl,rfl⟩
     go_wp2_with fail
     refine (C2.out _).mono ?_
     rintro e w' ⟨rfl,rfl⟩
     go_wp2_with fail
     refine (C3.out _).mono ?_
     rintro e w' ⟨rfl,rfl⟩
     go_wp2
     go_ret
     exact ⟨rfl,H.out,Fr.refl _ _ _⟩
    ·have C3:Hid (∀ w,_):=λw=>Z5 E x w a1 m3 a2 m4 (by omega)
     clear q q2 a1 a2 m3 m4 ad P2
     go_enter func326,ntmps326
     go_wp2_with fail
     refine (C1.out _).mono ?_
     rintro e w' ⟨rfl,rfl⟩
     go_wp2_with fail
     refine (C2.out _).mono ?_
     rintro e w' ⟨rfl,rfl⟩
     go_wp2_with fail
     refine (C3.out _).mono ?_
     rintro e w' ⟨rfl,rfl⟩
     go_wp2
     go_ret
     exact ⟨rfl,H.out,Fr.refl _ _ _⟩
   ·rw [AHh q] at ad
    rw [ad,AHi rfl]
    have C3:Hid (∀ w,_):=λw=>SY E x w a1 m3 (by omega)
    obtain ⟨y,hy⟩:∃ y,E+x=y:=⟨_,rfl⟩
    rw [hy] at C3 q P2
    have P4:=P2.out T P3.out
    have P5:Hid _:=P4
    clear a1 a2 m3 m4 ad hy P2 P3 P4
    go_enter func326,ntmps326
    go_wp2_with fail
    refine (C1.out _).mono ?_
    rintro e w' ⟨rfl,rfl⟩
    go_wp2_with fail
    refine (C2.out _).mono ?_
    rintro e w' ⟨rfl,rfl⟩
    go_wp2_with fail
    refine (C3.out _).mono ?_
    rintro e w' ⟨rfl,rfl⟩
    go_wp2
    go_ret
    exact ⟨rfl,P5.out,(xY _ _).trans ((Fr.refl _ _ _).setCell (Or.inr (by simp)) _)⟩
def Ww (w:World) (s g n:Nat) (F:Nat->Ac) (c t p:Int) (h:PM w s g n F) (ok:JQ n F 10000000000000000):
 Calls prog 274 #[.pointer (some ⟨s,0,none⟩),.int .i64 c,.int .i64 t,.int .i64 p] w λe w'=>e=.returned (.int .i64 (Ax n F c t p))/\PM w' s g n (NV n F c t p)/\Fr w.heap.size [g] w w':=by
 have H:Hid (PM w s g n F):=h
 cases hc:inr n c with
 | false=>
  have we:Ax n F c t p=3:=by unfold Ax;rw [hc];rfl
  have wf:NV n F c t p=F:=by unfold NV;rw [we];rfl
  have C:Hid (∀ _:Unit,_):=λ_=>Sb w s g n c F h hc
  rw [we,wf]
  clear h ok we wf
  go_enter func274,ntmps274
  go_wp2_with fail
  refine (C.out ()).mono ?_
  rintro e w' ⟨rfl,rfl⟩
  go_wp2
  go_ret
  have B:=(Below.refl w.heap.size w).alloc (ADW _) (.cells (List.replicate 10 (.int .i64 0)).toArray 346)
  exact ⟨rfl,H.out.below B,(Fr.AE B).mono (ADW _) (λ_ _ _=>by simp)⟩
 | true=>
  obtain ⟨k,rfl,hk⟩:=Fy hc
  have we:Ax n F k t p=BA (F k).e t p:=by unfold Ax;rw [hc];rfl
  have wf:NV n F k t p=if BA (F k).e t p=0 then BC F k (J1 (F k) t p) else F:=by unfold NV;rw [we];rfl
  have C:Hid (∀ _:Unit,_):=λ_=>Sa w s g n k F h hk
  have A:Hid (∀ _:Unit,_):=λ_=>P9 w s g n k F t p h hk (ok k hk)
  rw [we,wf]
  clear h ok we wf
  generalize (if BA (F k).e t p=0 then BC F k (J1 (F k) t p) else F)=F2 at *
  generalize BA (F k).e t p=E at *
  go_enter func274,ntmps274
  go_wp2_with fail
  refine (C.out ()).mono ?_
  rintro e w' ⟨rfl,rfl⟩
  go_wp2_with fail
  refine (A.out ()).mono ?_
  rintro e u ⟨rfl,h1,h2⟩
  have R:Hid _:=And.intro h1 h2
  clear h1 h2
  go_wp2
  go_ret
  exact ⟨rfl,R.out⟩
def Wx (w:World) (s g n:Nat) (F:Nat->Ac) (c m t p:Int) (h:PM w s g n F) (ok:JQ n F 10000000000000000):
 Calls prog 272 #[.pointer (some ⟨s,0,none⟩),.int .i64 c,.int .i64 m,.int .i64 t,.int .i64 p] w λe w'=>e=.returned (.int .i64 (Br n F c m t p))/\PM w' s g n (J2 n F c m t p)/\Fr w.heap.size [g] w w':=by
 have H:Hid (PM w s g n F):=h
 have W:Hid (∀ w,_):=λw=>Z4 m w
 cases hc:inr n c with
 | false=>
  have we:Br n F c m t p=3:=by unfold Br;rw [hc];rfl
  have wf:J2 n F c m t p=F:=by unfold J2;rw [we];rfl
  have C:Hid (∀ _:Unit,_):=λ_=>Sb w s g n c F h hc
  rw [we,wf]
  clear h ok we wf
  go_enter func272,ntmps272
  go_wp2_with fail
  refine (C.out ()).mono ?_
  rintro e w' ⟨rfl,rfl⟩
  go_wp2
  go_ret
  have B:=(Below.refl w.heap.size w).alloc (ADW _) (.cells (List.replicate 10 (.int .i64 0)).toArray 346)
  exact ⟨rfl,H.out.below B,(Fr.AE B).mono (ADW _) (λ_ _ _=>by simp)⟩
 | true=>
  obtain ⟨k,rfl,hk⟩:=Fy hc
  have C:Hid (∀ _:Unit,_):=λ_=>Sa w s g n k F h hk
  cases hm:inr 8 m with
  | false=>
   have we:Br n F k m t p=3:=by unfold Br;rw [hc,hm];rfl
   have wf:J2 n F k m t p=F:=by unfold J2;rw [we];rfl
   rw [we,wf]
   rw [hm] at W
   clear h ok we wf hm
   go_enter func272,ntmps272
   go_wp2_with fail
   refine (C.out ()).mono ?_
   rintro e w' ⟨rfl,rfl⟩
   go_wp2_with fail
   refine (W.out _).mono ?_
   rintro e w' ⟨rfl,rfl⟩
   go_wp2
   go_ret
   exact ⟨rfl,H.out,Fr.refl _ _ _⟩
  | true=>
   rw [hm] at W
   obtain ⟨j,rfl,hj⟩:=Fy hm
   have we:Br n F k j t p=BA (F k).e t p:=by unfold Br;rw [hc,hm];rfl
   have wf:J2 n F k j t p=if BA (F k).e t p=0 then BC F k (rest (F k) j t p) else F:=by unfold J2;rw [we];rfl
   have A:Hid (∀ _:Unit,_):=λ_=>P9 w s g n k F t p h hk (ok k hk)
   rw [we,wf]
   by_cases e0:BA (F k).e t p=0
   ·rw [e0]
    rw [e0] at A
    obtain ⟨z1,z2,z3⟩:=MB e0
    obtain ⟨m1,m2,m3,m4⟩:=NY z1 z2
    have q0:=(ok k hk).r0 j
    have q1:(F k).r j<=10000000000000000:=by
     have o:=ok k hk
     have:=o.tb
     have:=o.w0
     have r:=o.r0
     have:=r 0;have:=r 1;have:=r 2;have:=r 3;have:=r 4;have:=r 5;have:=r 6;have:=r 7
     unfold tk IH at *
     have:j=0\/j=1\/j=2\/j=3\/j=4\/j=5\/j=6\/j=7:=by omega
     rcases this with rfl | rfl | rfl | rfl | rfl | rfl | rfl | rfl <;> omega
    have K:Hid (∀ u,PM u s g n (BC F k (J1 (F k) t p))->u.cell? ⟨g,k*10+2+j,none⟩=some (.int .i64 ((F k).r j))/\u.frozen? ⟨g,k*10+2+j,none⟩=false):=λu hu=>by
     refine ⟨?_,hu.free _⟩
     have:=hu.cell hk (2+j) (by omega)
     rw [J0] at this
     rw [AFd,this]
     unfold I7
     rw [AHh (by omega),AHh (by omega),show 2+j-2=j by omega]
     rfl
    have S:Hid (∀ u,PM u s g n (BC F k (J1 (F k) t p))->PM (u.setCell ⟨g,k*10+2+j,none⟩ (.int .i64 ((F k).r j+t))) s g n (BC F k (rest (F k) j t p))):=λu hu=>by
     have s1:=hu.set hk (2+j) (by omega) (rest (F k) j t p) ((F k).r j+t) (by
      unfold I7
      rw [AHh (by omega),AHh (by omega),show 2+j-2=j by omega]
      exact J0 _ _ _) (λi hi hn=>by
      rw [J0]
      unfold I7
      split
      ·rfl
      ·split
       ·show (F k).wk+IH (BC (F k).r j ((F k).r j+t))=(F k).wk+t+IH (F k).r
        rw [Zw _ _ _ hj];omega
       ·exact Zv _ _ _ _ (by omega))
     rw [VO,<- AFd] at s1
     exact s1
    have tw:wrap64 ((F k).r j+t)=(F k).r j+t:=by simp only [wrap64];omega
    obtain ⟨R,hR⟩:∃ R,(F k).r j+t=R:=⟨_,rfl⟩
    rw [hR] at S
    replace tw:=tw.trans hR
    generalize (F k).r j=R0 at *
    have jl:(j:Int)<8:=by omega
    rw [AHi rfl] at A ⊢
    clear h ok we wf hm e0 z1 z2 z3 m1 m2 m3 m4 q0 q1 hR
    go_enter func272,ntmps272
    go_wp2_with fail
    refine (C.out ()).mono ?_
    rintro e w' ⟨rfl,rfl⟩
    go_wp2_with fail
    refine (W.out _).mono ?_
    rintro e w' ⟨rfl,rfl⟩
    go_wp2_with fail
    refine (A.out ()).mono ?_
    rintro e u ⟨rfl,h1,h2⟩
    obtain ⟨k1,k2⟩:=K.out u h1
    have R1:Hid _:=S.out u h1
    have R2:Hid (Fr w'.heap.size [g] w' u):=h2
    clear h1 h2 K S A W C H
    go_wp2_with fail
    go_region
    go_wp2
    go_ret
    exact ⟨rfl,R1.out.heap rfl,((R2.out.drewN _).setCell (Or.inr (by simp)) _)⟩
   ·rw [AHh e0] at A ⊢
    have e1:(BA (F k).e t p==0)=false:=AHl.2 e0
    generalize BA (F k).e t p=E at *
    clear h ok we wf hm e0
    go_enter func272,ntmps272
    go_wp2_with fail
    refine (C.out ()).mono ?_
    rintro e w' ⟨rfl,rfl⟩
    go_wp2_with fail
    refine (W.out _).mono ?_
    rintro e w' ⟨rfl,rfl⟩
    go_wp2_with fail
    refine (A.out ()).mono ?_
    rintro e u ⟨rfl,h1,h2⟩
    have R:Hid _:=And.intro h1 h2
    clear h1 h2
    go_wp2
    go_ret
    exact ⟨rfl,R.out⟩
end Go.Proofs.YtdlhlfpigcgapaaGreatDoor.Met

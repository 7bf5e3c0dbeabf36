import Derived.Test.YtdlhlfpigcgapaaGreatDoorAZal
import Derived.Test.YtdlhlfpigcgapaaGreatDoorAXa
import Derived.Laws.MakeOwn
import Derived.Laws.ResultCell
import Derived.Shelf.RegionOpenPlain
set_option maxRecDepth 100000
set_option maxHeartbeats 16000000
set_option linter.unusedVariables false
set_option linter.unusedSimpArgs false
set_option linter.defProp false
namespace Go.Proofs.YtdlhlfpigcgapaaGreatDoor.Cor
open Go.Proofs.Tryz
open Go.ChangeShapes Go.WideShapes Go.ChangeAt Go.RowKit
section
variable {α:Type} {L:Hj α}
def qA (Y:List α):(L.all Y).length=Y.length*L.n:=by
 induction Y with
 | nil=>simp [Hj.all]
 | cons x r ih=>rw [Dc,ADa,ih,L.len,ADy,Nat.succ_mul];omega
def VS (Y:List α) (k j:Nat) (x:α) (v:Value) (h:k<Y.length) (hj:j<L.n) (e:L.f x=(L.f (Y.getD k L.z)).set j v):(L.all Y).set (k*L.n+j) v=L.all (Y.set k x):=by
 induction Y generalizing k with
 | nil=>simp at h
 | cons y r ih=>
  have hy:=L.len y
  cases k with
  | zero=>
   rw [Dc,AD5,Dc,List.set_append_left _ _ (by omega),AEy,ADs,e]
   rfl
  | succ k=>
   have e2:(k+1)*L.n=k*L.n+L.n:=Nat.succ_mul k L.n
   rw [Dc,AD2,Dc,List.set_append_right _ _ (by omega),show (k+1)*L.n+j-(L.f y).length=k*L.n+j by omega,ih k (by simpa using h) e]
end
namespace Co
open Go.Proofs.Tryz
variable {k n:Nat}
structure Kc where
 p:Bool
 i:Bool
 way:Int
 since:Int
 steps:Int
 busy:Int
def kz:Kc:=⟨false,false,0,0,0,0⟩
def kn:Kc:=⟨true,false,0,0,0,0⟩
structure Fl where
 stop:Bool
 held:Bool
 hot:Bool
 act:Bool
 call:Bool
 irq:Bool
 timer:Bool
 work:Bool
 thr:Bool
def BG (f:Fl):Int:=if f.stop then 2 else if f.hot then 3 else if f.held || !f.act then 0 else if f.call then 4 else if f.irq then 5 else if f.timer then 6 else if f.work then 7 else if f.thr then 8 else 9
def next (p i:Bool) (f:Fl):Int:=if p then (if i then (if BG f=0\/BG f=9 then 0 else 1) else BG f) else 0
def Bt (n:Nat) (c:Int):Bool:=decide (0<=c)&&decide (c<(n:Int))
def AO (t:Int):Bool:=decide (0<=t)&&decide (t<=1152921504606846976)
def Nf (y:Int):Bool:=decide (0<=y)&&decide (y<8)
def inc (x:Int):Int:=wrap64 (x+1)
def gt (Y:List Kc) (c:Int):Kc:=if Bt Y.length c then Y.getD c.toNat kz else kz
def FB (Y:List Kc) (c:Int):Int:=if Bt Y.length c then 0 else 3
def JS (Y:List Kc) (c:Int) (on:Bool):Int:=if Bt Y.length c then (if (gt Y c).p=on then 6 else 0) else 3
def Le (Y:List Kc) (c:Int) (on:Bool):List Kc:=if JS Y c on=0 then Y.set c.toNat { gt Y c with p:=on,i:=false,way:=0,since:=0 } else Y
def Br (Y:List Kc) (c way now:Int):Int:=if Bt Y.length c then (if Nf way&&AO now then (if (gt Y c).p&&!(gt Y c).i then 0 else 6) else 2) else 3
def FC (Y:List Kc) (c way now:Int):List Kc:=if Br Y c way now=0 then Y.set c.toNat { gt Y c with i:=true,way:=way,since:=now } else Y
def Ax (Y:List Kc) (c now:Int):Int:=if Bt Y.length c then (if AO now then (if (gt Y c).i then 0 else 6) else 2) else 3
def EK (Y:List Kc) (c now:Int):Int:=if Ax Y c now=0 then (if now<=(gt Y c).since then 0 else now-(gt Y c).since) else 0
def IJ (Y:List Kc) (c now:Int):List Kc:=if Ax Y c now=0 then Y.set c.toNat { gt Y c with i:=false,way:=0,since:=0 } else Y
def Ng (Y:List Kc) (c:Int) (b:Bool):List Kc:=if Bt Y.length c then Y.set c.toNat { gt Y c with steps:=inc (gt Y c).steps,busy:=if b then inc (gt Y c).busy else (gt Y c).busy } else Y
def Sj (Y:List Kc) (c:Int):List Kc:=if Bt Y.length c then Y.set c.toNat { gt Y c with steps:=0,busy:=0 } else Y
def aL (Y:List Kc):Prop:=∀ k∈Y,0<=k.since/\k.since<=1152921504606846976
def qB {Y:List Kc} (h:aL Y) (k:Nat) (x:Kc) (hx:0<=x.since/\x.since<=1152921504606846976):aL (Y.set k x):=λy hy=>by
 rcases AE9 hy with q | q
 ·exact h y q
 ·subst q;exact hx
def IK {Y:List Kc} (h:aL Y) (c:Int):0<=(gt Y c).since/\(gt Y c).since<=1152921504606846976:=by
 unfold gt
 split
 ·rename_i e
  simp only [Bt,ADe,decide_eq_true_eq] at e
  have hl:c.toNat<Y.length:=by omega
  exact h _ (by simp [List.getD,hl])
 ·exact ⟨AFJ 0,by show (0:Int)<=_;omega⟩
def Cq {c:Int} (h:Bt n c=true):∃ k:Nat,c=(k:Int)/\k<n:=by
 simp only [Bt,ADe,decide_eq_true_eq] at h
 exact ⟨c.toNat,by omega,by omega⟩
def qC (h:k<n):Bt n (k:Int)=true:=by simp [Bt];omega
def IL {Y:List Kc} (h:k<Y.length):gt Y (k:Int)=Y.getD k kz:=by unfold gt;rw [qC h];rfl
def qD (n:Nat):aL (List.replicate n kn):=λk hk=>by
 rw [(List.mem_replicate.1 hk).2]
 exact ⟨AFJ 0,by show (0:Int)<=_;omega⟩
end Co
open Co
variable {w:World} {g k n s z:Nat}
def ck:Hj Kc where
 n:=6
 f:=λx=>[.bool x.p,.bool x.i,.int .i64 x.way,.int .i64 x.since,.int .i64 x.steps,.int .i64 x.busy]
 z:=kz
 len:=λ_=>rfl
 one:=λx u h=>by
  simp only [AD0,ADt,or_false] at h
  rcases h with rfl | rfl | rfl | rfl | rfl | rfl <;> rfl
 pos:=by decide
def Nh (x:Kc):Value:=.agg #[.bool x.p,.bool x.i,.int .i64 x.way,.int .i64 x.since,.int .i64 x.steps,.int .i64 x.busy]
def IM (f:Fl):Value:=.agg #[.bool f.stop,.bool f.held,.bool f.hot,.bool f.act,.bool f.call,.bool f.irq,.bool f.timer,.bool f.work,.bool f.thr]
def Lf (f:Fl):List Bool:=[f.stop,f.hot,f.held || !f.act,f.call,f.irq,f.timer,f.work,f.thr]
def VT:List Int:=[2,3,0,4,5,6,7,8]
def aM (f:Fl) (k:Nat) (hk:k<8) (h:∀ j,j<k->(Lf f).getD j false=false) (e:(Lf f).getD k false=true):BG f=VT.getD k 0:=by
 obtain rfl | rfl | rfl | rfl | rfl | rfl | rfl | rfl:k=0\/k=1\/k=2\/k=3\/k=4\/k=5\/k=6\/k=7:=by omega
 all_goals (
  have h0:=h 0;have h1:=h 1;have h2:=h 2;have h3:=h 3;have h4:=h 4;have h5:=h 5;have h6:=h 6
  simp [Lf] at h0 h1 h2 h3 h4 h5 h6 e
  simp_all [BG,VT])
def W9 (f:Fl) (h:∀ j,j<8->(Lf f).getD j false=false):BG f=9:=by
 have h0:=h 0;have h1:=h 1;have h2:=h 2;have h3:=h 3;have h4:=h 4;have h5:=h 5;have h6:=h 6;have h7:=h 7
 simp [Lf] at h0 h1 h2 h3 h4 h5 h6 h7
 simp_all [BG]
def aN (s0 s1 s2 s3 s4 s5 s6 s7:Bool) (k:Nat) (h:k<8) (w:World):(Instr.index 270 (.agg #[.bool s0,.int .i64 2,.bool s1,.int .i64 3,.bool s2,.int .i64 0,.bool s3,.int .i64 4,.bool s4,.int .i64 5,.bool s5,.int .i64 6,.bool s6,.int .i64 7,.bool s7,.int .i64 8]) (.int .i64 (k:Int))).run prog w=.ok (.agg #[.bool ([s0,s1,s2,s3,s4,s5,s6,s7].getD k false),.int .i64 (VT.getD k 0)]) w:=by
 obtain rfl | rfl | rfl | rfl | rfl | rfl | rfl | rfl:k=0\/k=1\/k=2\/k=3\/k=4\/k=5\/k=6\/k=7:=by omega
 all_goals rfl
def aO (f:Fl) (w:World):Calls prog 107 #[IM f] w λe w'=>e=.returned (.int .i64 (BG f))/\Below w.heap.size w w':=by
 have HH:Hid (∀ k,k<8->(∀ j,j<k->(Lf f).getD j false=false)->(Lf f).getD k false=true->BG f=VT.getD k 0):=λk=>aM f k
 have HN:Hid ((∀ j,j<8->(Lf f).getD j false=false)->BG f=9):=W9 f
 have HI:Hid (∀ k,k<8->∀ w,_):=λk hk w=>aN f.stop f.hot (f.held || !f.act) f.call f.irq f.timer f.work f.thr k hk w
 rw [show [f.stop,f.hot,f.held || !f.act,f.call,f.irq,f.timer,f.work,f.thr]=Lf f from rfl] at HI
 generalize BG f=ans at *
 generalize Lf f=S at *
 obtain ⟨s,h,o,a,c,i,t,k,r⟩:=f
 simp only [IM]
 dsimp only at HI
 obtain ⟨z,hz⟩:∃ z,w.heap.size=z:=⟨_,rfl⟩
 cases h
 all_goals (
  simp only [Bool.false_or,Bool.true_or] at HI
  have S0:Hid (∀ o1 o2,Below z w ((w.alloc o1).alloc o2)):=λo1 o2=>((Below.refl z w).alloc (by omega) _).alloc (by simp;omega) _
  rw [hz]
  go_enter func107,ntmps107
  go_wp2
  go_loopw [37] (λi wr=>∃ k:Nat,(k:Int)<=8/\Hid (∀ j,j<k->S.getD j false=false)/\Below z w wr/\i=.int .i64 k) (λi _=>8-(intOf i).toNat)
  case atStart=>exact ⟨0,by omega,λj hj=>by omega,S0.out _ _,rfl⟩
  case round=>
   obtain ⟨n,hn,hB,hl,rfl⟩:=hrel
   have hzl:z<=wr.heap.size:=by have:=hl.size;omega
   have HL:Hid (Below z w wr):=hl
   have HZ:Hid (z<=wr.heap.size):=hzl
   clear hl hzl S0
   by_cases e:(n:Int)<8
   ·have hx:=HI.out n (by omega) wr
    have hh:=HH.out n (by omega) hB.out
    cases es:S.getD n false with
    | true=>
     rw [es] at hx
     have ev:=hh es
     generalize VT.getD n 0=y at *
     subst ev
     clear hh es
     go_wp2
     go_ret
     exact ⟨rfl,HL.out.alloc HZ.out _⟩
    | false=>
     rw [es] at hx
     have hB2:Hid (∀ j,j<n+1->S.getD j false=false):=λj hj=>by
      by_cases c:j=n
      ·subst c;exact es
      ·exact hB.out j (by omega)
     generalize VT.getD n 0=y at *
     clear hh es
     go_wp2
     go_roundw
     case rel=>exact ⟨n+1,by omega,hB2,HL.out.alloc HZ.out _,by go_num⟩
     case measure=>simp [intOf];omega
   ·have ev:=HN.out (λj hj=>hB.out j (by omega))
    subst ev
    go_wp2
    go_ret
    exact ⟨rfl,HL.out⟩)
def Gi (x:Kc) (f:Fl) (w:World):Calls prog 71 #[Nh x,IM f] w λe w'=>e=.returned (.int .i64 (next x.p x.i f))/\Below w.heap.size w w':=by
 have C:Hid (∀ w,_):=λw=>aO f w
 have HW:Hid (∀ (u:World) o1 o2,Below ((w.alloc o1).alloc o2).heap.size ((w.alloc o1).alloc o2) u->Below w.heap.size w u):=λu o1 o2 h=>(((Below.refl w.heap.size w).alloc (ADW _) o1).alloc (by simp) o2).trans (h.mono (by simp;omega))
 have HV:Hid (∀ o1 o2,Below w.heap.size w ((w.alloc o1).alloc o2)):=λo1 o2=>((Below.refl w.heap.size w).alloc (ADW _) o1).alloc (by simp) o2
 obtain ⟨p,i,y,s,t,b⟩:=x
 unfold next
 simp only [Nh]
 generalize BG f=v at *
 simp only [IM] at C ⊢
 cases p with
 | false=>
  go_enter func71,ntmps71
  go_wp2
  go_ret
  exact ⟨rfl,HV.out _ _⟩
 | true=>
  have HX:Hid (∀ (u:World) o2,Below ((w.alloc (.cells #[.bool true,.bool i,.int .i64 y,.int .i64 s,.int .i64 t,.int .i64 b] 113)).alloc o2).heap.size ((w.alloc (.cells #[.bool true,.bool i,.int .i64 y,.int .i64 s,.int .i64 t,.int .i64 b] 113)).alloc o2) u->u.cell? ⟨w.heap.size,1,none⟩=some (.bool i)):=λu o2 h=>
   (h.cell (p:=⟨w.heap.size,1,none⟩) (by simp;omega)).trans (((AB.new w [.bool true,.bool i,.int .i64 y,.int .i64 s,.int .i64 t,.int .i64 b] 113).alloc o2).cell 1)
  rw [AHi rfl]
  cases i with
  | false=>
   rw [AHh (by decide)]
   go_enter func71,ntmps71
   go_wp2_with fail
   refine (C.out _).mono ?_
   rintro e w' ⟨rfl,b1⟩
   have hx:=HX.out _ _ b1
   go_wp2
   go_ret
   exact ⟨rfl,HW.out _ _ _ b1⟩
  | true=>
   rw [AHi rfl]
   by_cases e1:v=0
   ·rw [AHi (Or.inl e1)]
    subst e1
    go_enter func71,ntmps71
    go_wp2_with fail
    refine (C.out _).mono ?_
    rintro e w' ⟨rfl,b1⟩
    have hx:=HX.out _ _ b1
    go_wp2
    go_ret
    exact ⟨rfl,HW.out _ _ _ b1⟩
   ·by_cases e2:v=9
    ·rw [AHi (Or.inr e2)]
     subst e2
     go_enter func71,ntmps71
     go_wp2_with fail
     refine (C.out _).mono ?_
     rintro e w' ⟨rfl,b1⟩
     have hx:=HX.out _ _ b1
     go_wp2
     go_ret
     exact ⟨rfl,HW.out _ _ _ b1⟩
    ·rw [AHh (by omega)]
     have b0:(v==0)=false:=by simpa using e1
     have b9:(v==9)=false:=by simpa using e2
     go_enter func71,ntmps71
     go_wp2_with fail
     refine (C.out _).mono ?_
     rintro e w' ⟨rfl,b1⟩
     have hx:=HX.out _ _ b1
     go_wp2
     go_ret
     exact ⟨rfl,HW.out _ _ _ b1⟩
structure CT (w:World) (s g:Nat) (Y:List Kc):Prop where
 sb:AB w s [.slice (some ⟨g,0,none⟩) Y.length Y.length] 184
 gb:AB w g (ck.all Y) 113
 ok:aL Y
 l1:1<=Y.length
 l2:Y.length<=64
section
variable {w w1:World} {s g:Nat} {Y:List Kc}
def CT.heap (h:CT w s g Y) (e:w1.heap=w.heap):CT w1 s g Y:=⟨h.sb.heap e,h.gb.heap e,h.ok,h.l1,h.l2⟩
def CT.AA {B:Nat} {S:List Nat} (h:CT w s g Y) (f:Fr B S w w1) (hb:s<B) (gb:g<B) (hs:s∉S) (gs:g∉S):CT w1 s g Y:=⟨h.sb.AA f hb hs,h.gb.AA f gb gs,h.ok,h.l1,h.l2⟩
def CT.below (h:CT w s g Y) (f:Below w.heap.size w w1):CT w1 s g Y:=h.AA (Fr.AE f) h.sb.lt h.gb.lt (by simp) (by simp)
def CT.ne (h:CT w s g Y):s≠g:=h.sb.ne h.gb (by decide)
def CT.Zy (h:CT w s g Y):w.cell? ⟨s,0,none⟩=some (.slice (some ⟨g,0,none⟩) Y.length Y.length):=h.sb.cell 0
def CT.cell (h:CT w s g Y) {k:Nat} (hk:k<Y.length) (j:Nat) (hj:j<6):w.cell? ⟨g,k*6+j,none⟩=(ck.f (Y.getD k kz))[j]?:=by
 rw [h.gb.cell]
 exact JX (L:=ck) Y k j hk hj
def CT.set (h:CT w s g Y) {k:Nat} (hk:k<Y.length) (j:Nat) (hj:j<6) (x:Kc) (v:Value) (e:ck.f x=(ck.f (Y.getD k kz)).set j v) (o:0<=x.since/\x.since<=1152921504606846976):CT (w.setCell ⟨g,k*6+j,none⟩ v) s g (Y.set k x):=by
 refine ⟨?_,?_,qB h.ok k x o,by simpa using h.l1,by simpa using h.l2⟩
 ·rw [AEU]
  exact h.sb.other h.ne _
 ·rw [<- VS (L:=ck) Y k j x v hk hj e]
  exact h.gb.set _ _
end
def Fz (w:World) (s g k:Nat) (Y:List Kc) (h:CT w s g Y) (hk:k<Y.length):
 Calls prog 97 #[.pointer (some ⟨s,0,none⟩),.int .i64 (k:Int)] w λe w'=>e=.returned (.tuple #[.pointer (some ⟨g,k*6,none⟩),.int .i64 0])/\w'=w:=by
 have c0:=h.Zy
 generalize Y.length=n at *
 have l1:(k:Int)<n:=by omega
 have l2:¬ (n:Int)<=k:=by omega
 clear h
 go_enter func97,ntmps97
 go_wp2
 go_ret2
 exact ⟨rfl,rfl⟩
def wc (w:World):World:=w.alloc (.cells #[.bool false,.bool false,.int .i64 0,.int .i64 0,.int .i64 0,.int .i64 0] 113)
def IP (w:World) (s g:Nat) (c:Int) (Y:List Kc) (h:CT w s g Y) (hk:Bt Y.length c=false):
 Calls prog 97 #[.pointer (some ⟨s,0,none⟩),.int .i64 c] w λe w'=>e=.returned (.tuple #[.pointer (some ⟨w.heap.size,0,none⟩),.int .i64 3])/\w'=wc w:=by
 have c0:=h.Zy
 generalize Y.length=n at *
 by_cases l1:c<0
 ·clear h hk
  go_enter func97,ntmps97
  go_wp2
  go_ret2
  exact ⟨rfl,rfl⟩
 ·have l2:(n:Int)<=c:=by simp [Bt] at hk;omega
  clear h hk
  go_enter func97,ntmps97
  go_wp2
  go_ret2
  exact ⟨rfl,rfl⟩
def BH (w:World):Below w.heap.size w (wc w):=(Below.refl _ _).alloc (ADW _) _
def IQ (w:World):AB (wc w) w.heap.size (ck.f kz) 113:=AB.new w _ _
def Tryz.yH:(prog.info? 113).map (λi=>(i.zero,i.size,i.bytes))=some (some (Nh kz),6,40):=by kernel_rfl
def gL (n:Nat):madeCells (Nh kz).cells (n*6)=(ck.all (List.replicate n kz)).toArray:=by
 have hz:(Nh kz).cells=(ck.f kz).toArray:=rfl
 rw [hz]
 have hl:=qA (L:=ck) (List.replicate n kz)
 apply AFU
 ·rw [size_madeCells,AEY,hl,AED];rfl
 ·intro i h1 h2
  have hi:i<n*6:=by simpa [size_madeCells] using h1
  have hm:i % 6<6:=AE8 _ (by omega)
  have e:=JX (L:=ck) (List.replicate n kz) (i / 6) (i % 6) (by rw [AED];omega) hm
  rw [show i / 6*ck.n+i % 6=i by show i / 6*6+i % 6=i;omega,show (List.replicate n kz).getD (i / 6) ck.z=kz by simp only [List.getD,AEA];split <;> rfl] at e
  simp only [madeCells,Array.getElem_map,Array.getElem_range]
  rw [getElem!_pos (ck.f kz).toArray (i % (ck.f kz).toArray.size) hm]
  simp only [AFq,AEY]
  have e2:(ck.f kz)[i % 6]?=some ((ck.f kz)[i % 6]'hm):=ADZ _
  rw [e2,ADc] at e
  obtain ⟨h,e⟩:=e
  exact e.symm
def EP (n k:Nat):List Kc:=List.replicate k kn++List.replicate (n-k) kz
def VU (h:k<=n):(EP n k).length=n:=by simp [EP];omega
def aP (_:k<n):(EP n k).getD k kz=kz:=by
 unfold EP
 simp only [List.getD]
 rw [ADj (by simp),AED,Nat.sub_self,AEA]
 split <;> rfl
def qE (h:k<n):(EP n k).set k kn=EP n (k+1):=by
 unfold EP
 rw [List.set_append_right _ _ (by simp),AED,Nat.sub_self,List.replicate_succ',AEs,show n-k=(n-(k+1))+1 by omega,AEw]
 rfl
def aQ (n:Nat) (w:World) (h1:(1:Int)<=n) (h2:(n:Int)<=64):
 Calls prog 36 #[.int .i64 (n:Int)] w λe w'=>e=.returned (.tuple #[.pointer (some ⟨w.heap.size+1,0,none⟩),.int .i64 0])/\CT w' (w.heap.size+1) w.heap.size (List.replicate n kn)/\Below w.heap.size w w':=by
 obtain ⟨i0,hi,hz0,hz1,hz2⟩:=info_parts Tryz.yH
 have hm:=run_make (P:=prog) w 182 113 i0 _ underlying182 hi hz0 .i64 .i64 n n (by omega) (by omega) (by rw [hz2];omega) (by omega)
 rw [hz1,AD4,gL] at hm
 have hj:Hid (ck.all (List.replicate n kz)=ck.all (EP n 0)):=by unfold Hid EP;simp
 have F:Hid (∀ o1 o2,Below w.heap.size w ((w.alloc o1).alloc o2)):=λo1 o2=>((Below.refl _ _).alloc (ADW _) o1).alloc (by simp) o2
 generalize ck.all (List.replicate n kz)=Z at *
 have B0:Hid (AB ((w.alloc (.cells Z.toArray 113)).alloc (.cells #[.slice (some ⟨w.heap.size,0,none⟩) n n] 184)) w.heap.size Z 113/\AB ((w.alloc (.cells Z.toArray 113)).alloc (.cells #[.slice (some ⟨w.heap.size,0,none⟩) n n] 184)) (w.heap.size+1) [.slice (some ⟨w.heap.size,0,none⟩) n n] 184):=by
  refine ⟨(AB.new w Z _).alloc _,?_⟩
  have:=AB.new (w.alloc (.cells Z.toArray 113)) [.slice (some ⟨w.heap.size,0,none⟩) n n] 184
  simpa using this
 obtain ⟨z,hz⟩:∃ z,w.heap.size=z:=⟨_,rfl⟩
 rw [hz] at hm B0 F ⊢
 clear hi hz0 hz1 hz2
 go_enter func36,ntmps36
 go_wp2
 go_loopw [21] (λi wr=>∃ k:Nat,(k:Int)<=n/\AB wr z (ck.all (EP n k)) 113/\AB wr (z+1) [.slice (some ⟨z,0,none⟩) n n] 184/\Below z w wr/\i=.int .i64 k) (λi _=>n-(intOf i).toNat)
 case atStart=>exact ⟨0,by omega,by rw [<- hj.out];exact B0.out.1,B0.out.2,F.out _ _,rfl⟩
 case round=>
  obtain ⟨k,hk,hs,ht,hl,rfl⟩:=hrel
  clear B0 F hm
  have c0:=ht.cell 0
  have HL:Hid (Below z w wr):=hl
  by_cases e:(k:Int)<n
  ·have HS:Hid (AB wr z (ck.all (EP n k)) 113/\AB wr (z+1) [.slice (some ⟨z,0,none⟩) n n] 184):=⟨hs,ht⟩
   have d0:wr.cell? ⟨z,k*6,none⟩=some (.bool false):=by
    rw [hs.cell]
    have q:=JX (L:=ck) (EP n k) k 0 (by rw [VU (by omega)];omega) (by decide)
    rw [show (EP n k).getD k ck.z=kz from aP (by omega)] at q
    exact q
   have f0:=hs.free (k*6)
   clear hs ht hl
   go_wp2
   go_roundw
   case rel=>
    refine ⟨k+1,by omega,?_,HS.out.2.other (by simp) _,HL.out.setCell (ADW _) _,by go_num⟩
    have q:=HS.out.1.set (k*6) (.bool true)
    have q2:=VS (L:=ck) (EP n k) k 0 kn (.bool true) (by rw [VU (by omega)];omega) (by decide) (by rw [show (EP n k).getD k ck.z=kz from aP (by omega)];rfl)
    rw [qE (by omega)] at q2
    rw [<- q2]
    exact q
   case measure=>simp [intOf];omega
  ·obtain rfl:k=n:=by omega
   have HS:Hid (AB wr z (ck.all (EP k k)) 113/\AB wr (z+1) [.slice (some ⟨z,0,none⟩) k k] 184):=⟨hs,ht⟩
   have HE:Hid (EP k k=List.replicate k kn):=by unfold Hid EP;simp
   clear hs ht hl
   go_wp2
   go_ret2
   have l:(List.replicate k kn).length=k:=by simp
   refine ⟨rfl,⟨by rw [l];exact HS.out.2,by rw [<- HE.out];exact HS.out.1,qD k,by omega,by omega⟩,HL.out⟩
section
variable {w w1:World} {s g k:Nat} {Y:List Kc} {x1:Kc}
def CT.EG (h:CT w s g (Y.set k x1)) (hk:k<Y.length) (j:Nat) (hj:j<6) (x:Kc) (v:Value) (e:ck.f x=(ck.f x1).set j v) (o:0<=x.since/\x.since<=1152921504606846976):CT (w.setCell ⟨g,k*6+j,none⟩ v) s g (Y.set k x):=by
 have q:=h.set (k:=k) (by simpa using hk) j hj x v (by rw [show (Y.set k x1).getD k kz=x1 by simp [List.getD,hk]];exact e) o
 rwa [List.set_set] at q
def CT.same (_:CT w s g Y) (hk:k<Y.length):Y.set k (Y.getD k kz)=Y:=by
 apply AEH
 intro i
 rw [AD6]
 split
 ·rename_i e
  subst e
  simp [List.getD,hk]
 ·rfl
end
def IR {w':World} (h:Below w.heap.size w w'):Fr w.heap.size [g] w w':=(Fr.AE h).mono (ADW _) (λ_ _ _=>by simp)
def ABw (w:World) (n:Nat) (u v:Value):Below w.heap.size w ((((wc w).drewN n).setCell ⟨w.heap.size,5,none⟩ u).setCell ⟨w.heap.size,4,none⟩ v):=by
 have a:Below w.heap.size w ((wc w).drewN n):=Sm.below (w1:=wc w) ⟨rfl,rfl,rfl,rfl⟩ (BH w)
 have b:Below w.heap.size w (((wc w).drewN n).setCell ⟨w.heap.size,5,none⟩ u):=a.setCell (ADW _) u
 exact b.setCell (ADW _) v
def aR (w:World) (g o:Nat) {v1 v2 v3:Value} (c1:w.cell? ⟨g,o+1,none⟩=some v1) (c2:w.cell? ⟨g,o+2,none⟩=some v2) (c3:w.cell? ⟨g,o+3,none⟩=some v3) (f1:w.frozen? ⟨g,o+1,none⟩=false) (f2:w.frozen? ⟨g,o+2,none⟩=false) (f3:w.frozen? ⟨g,o+3,none⟩=false):
 Calls prog 114 #[.pointer (some ⟨g,o,none⟩)] w λe w'=>e=.returned (.tuple #[])/\w'=((w.setCell ⟨g,o+1,none⟩ (.bool false)).setCell ⟨g,o+2,none⟩ (.int .i64 0)).setCell ⟨g,o+3,none⟩ (.int .i64 0):=by
 go_enter func114,ntmps114
 go_wp2
 go_end0
 exact ⟨rfl,rfl⟩
def Ni (n:Int) (w:World):Calls prog 113 #[.int .i64 n] w λe w'=>e=.returned (.bool (AO n))/\w'=w:=by
 unfold AO
 by_cases h1:0<=n
 ·by_cases h2:n<=1152921504606846976
  ·rw [AHj h1,AHj h2]
   go_enter func113,ntmps113
   go_wp2
   go_ret
   exact ⟨rfl,rfl⟩
  ·rw [AHj h1,AHk h2]
   go_enter func113,ntmps113
   go_wp2
   go_ret
   exact ⟨rfl,rfl⟩
 ·rw [AHk h1,AEm]
  go_enter func113,ntmps113
  go_wp2
  go_ret
  exact ⟨rfl,rfl⟩
def CT.DP {Y:List Kc} (h:CT w s g Y) (hk:k<Y.length) {x:Kc} (e:Y.getD k kz=x):
 w.cell? ⟨g,k*6,none⟩=some (.bool x.p)/\w.cell? ⟨g,k*6+1,none⟩=some (.bool x.i)/\w.cell? ⟨g,k*6+2,none⟩=some (.int .i64 x.way)/\w.cell? ⟨g,k*6+3,none⟩=some (.int .i64 x.since)/\w.cell? ⟨g,k*6+4,none⟩=some (.int .i64 x.steps)/\w.cell? ⟨g,k*6+5,none⟩=some (.int .i64 x.busy):=by
 subst e
 exact ⟨h.cell hk 0 (by omega),h.cell hk 1 (by omega),h.cell hk 2 (by omega),h.cell hk 3 (by omega),h.cell hk 4 (by omega),h.cell hk 5 (by omega)⟩
def XA {Y:List Kc} (w:World) (c:Int) (on:Bool) (h:CT w s g Y):
 Calls prog 238 #[.pointer (some ⟨s,0,none⟩),.int .i64 c,.bool on] w λe w'=>e=.returned (.int .i64 (JS Y c on))/\CT w' s g (Le Y c on)/\Fr w.heap.size [g] w w':=by
 have H:Hid (CT w s g Y):=h
 cases e:Bt Y.length c with
 | false=>
  have C:Hid (∀ _:Unit,_):=λ_=>IP w s g c Y h e
  have HB:Hid (CT (wc w) s g Y/\Fr w.heap.size [g] w (wc w)):=⟨h.below (BH w),IR (BH w)⟩
  rw [show JS Y c on=3 by unfold JS;rw [e];rfl,show Le Y c on=Y by unfold Le JS;rw [e];rfl]
  clear h e
  go_enter func238,ntmps238
  go_wp2_with fail
  refine (C.out ()).mono ?_
  rintro e w' ⟨rfl,rfl⟩
  go_wp2
  go_ret
  exact ⟨rfl,HB.out⟩
 | true=>
  obtain ⟨k,rfl,hk⟩:=Cq e
  have C:Hid (∀ _:Unit,_):=λ_=>Fz w s g k Y h hk
  obtain ⟨x,hx⟩:∃ x,Y.getD k kz=x:=⟨_,rfl⟩
  have hg:gt Y (k:Int)=x:=(IL hk).trans hx
  have hs:=h.same hk
  rw [hx] at hs
  have ok:0<=x.since/\x.since<=1152921504606846976:=by rw [<- hg];exact IK h.ok _
  obtain ⟨c0,c1,c2,c3,c4,c5⟩:=h.DP hk hx
  have f0:=h.gb.free (k*6)
  have f1:=h.gb.free (k*6+1)
  have f2:=h.gb.free (k*6+2)
  have f3:=h.gb.free (k*6+3)
  have f4:=h.gb.free (k*6+4)
  have f5:=h.gb.free (k*6+5)
  have HT:Hid (CT w s g (Y.set k x)):=by unfold Hid;rw [hs];exact h
  obtain ⟨p,i,y0,sn,st,bs⟩:=x
  dsimp only at *
  by_cases q:p=on
  ·rw [show JS Y (k:Int) on=6 by unfold JS;rw [e,hg];exact AHi q,show Le Y (k:Int) on=Y by unfold Le JS;rw [e,hg];simp [q]]
   subst q
   have q2:(p==p)=true:=by simp
   clear h e hg hs HT hx
   go_enter func238,ntmps238
   go_wp2_with fail
   refine (C.out ()).mono ?_
   rintro e w' ⟨rfl,rfl⟩
   go_wp2
   go_ret
   exact ⟨rfl,H.out,Fr.refl _ _ _⟩
  ·rw [show JS Y (k:Int) on=0 by unfold JS;rw [e,hg];exact AHh q,show Le Y (k:Int) on=Y.set k ⟨on,false,0,0,st,bs⟩ by unfold Le JS;rw [e,hg];simp [q]]
   have q2:(p==on)=false:=by simpa using q
   have t1:=HT.out.EG hk 0 (by omega) ⟨on,i,y0,sn,st,bs⟩ (.bool on) rfl ok
   have U:Hid (∀ _:Unit,_):=λ_=>aR (w.setCell ⟨g,k*6,none⟩ (.bool on)) g (k*6) (h.gb.set (k*6) (.bool on) |>.cell (k*6+1) |>.trans (by rw [AEP (by omega),<- h.gb.cell];exact c1)) (h.gb.set (k*6) (.bool on) |>.cell (k*6+2) |>.trans (by rw [AEP (by omega),<- h.gb.cell];exact c2)) (h.gb.set (k*6) (.bool on) |>.cell (k*6+3) |>.trans (by rw [AEP (by omega),<- h.gb.cell];exact c3)) ((h.gb.set (k*6) (.bool on)).free _) ((h.gb.set (k*6) (.bool on)).free _) ((h.gb.set (k*6) (.bool on)).free _)
   have t2:=t1.EG hk 1 (by omega) ⟨on,false,y0,sn,st,bs⟩ (.bool false) rfl ok
   have t3:=t2.EG hk 2 (by omega) ⟨on,false,0,sn,st,bs⟩ (.int .i64 0) rfl ok
   have t4:=t3.EG hk 3 (by omega) ⟨on,false,0,0,st,bs⟩ (.int .i64 0) rfl ⟨AFJ 0,by show (0:Int)<=_;omega⟩
   have HR:Hid (CT _ s g (Y.set k ⟨on,false,0,0,st,bs⟩)/\Fr w.heap.size [g] w _):=⟨t4,(((((Fr.refl _ _ _).st g (k*6) (.bool on) (by simp)).st g (k*6+1) (.bool false) (by simp)).st g (k*6+2) (.int .i64 0) (by simp)).st g (k*6+3) (.int .i64 0) (by simp))⟩
   clear h e hg hs HT hx t1 t2 t3 t4
   go_enter func238,ntmps238
   go_wp2_with fail
   refine (C.out ()).mono ?_
   rintro e w' ⟨rfl,rfl⟩
   go_wp2_with fail
   refine (U.out ()).mono ?_
   rintro e w' ⟨rfl,rfl⟩
   go_wp2
   go_ret
   exact ⟨rfl,HR.out⟩
def aS {Y:List Kc} (w:World) (c y t:Int) (h:CT w s g Y):
 Calls prog 118 #[.pointer (some ⟨s,0,none⟩),.int .i64 c,.int .i64 y,.int .i64 t] w λe w'=>e=.returned (.int .i64 (Br Y c y t))/\CT w' s g (FC Y c y t)/\Fr w.heap.size [g] w w':=by
 have H:Hid (CT w s g Y):=h
 cases e:Bt Y.length c with
 | false=>
  have C:Hid (∀ _:Unit,_):=λ_=>IP w s g c Y h e
  have HB:Hid (CT (wc w) s g Y/\Fr w.heap.size [g] w (wc w)):=⟨h.below (BH w),IR (BH w)⟩
  rw [show Br Y c y t=3 by unfold Br;rw [e];rfl,show FC Y c y t=Y by unfold FC Br;rw [e];rfl]
  clear h e
  go_enter func118,ntmps118
  go_wp2_with fail
  refine (C.out ()).mono ?_
  rintro e w' ⟨rfl,rfl⟩
  go_wp2
  go_ret
  exact ⟨rfl,HB.out⟩
 | true=>
  obtain ⟨k,rfl,hk⟩:=Cq e
  have C:Hid (∀ _:Unit,_):=λ_=>Fz w s g k Y h hk
  obtain ⟨x,hx⟩:∃ x,Y.getD k kz=x:=⟨_,rfl⟩
  have hg:gt Y (k:Int)=x:=(IL hk).trans hx
  have hs:=h.same hk
  rw [hx] at hs
  have ok:0<=x.since/\x.since<=1152921504606846976:=by rw [<- hg];exact IK h.ok _
  obtain ⟨c0,c1,c2,c3,c4,c5⟩:=h.DP hk hx
  have f0:=h.gb.free (k*6)
  have f1:=h.gb.free (k*6+1)
  have f2:=h.gb.free (k*6+2)
  have f3:=h.gb.free (k*6+3)
  have f4:=h.gb.free (k*6+4)
  have f5:=h.gb.free (k*6+5)
  have HT:Hid (CT w s g (Y.set k x)):=by unfold Hid;rw [hs];exact h
  obtain ⟨p,i,y0,sn,st,bs⟩:=x
  dsimp only at *
  have T:Hid (∀ w,_):=λw=>Ni t w
  cases a1:Nf y with
  | false=>
   rw [show Br Y (k:Int) y t=2 by unfold Br;rw [e];simp [a1],show FC Y (k:Int) y t=Y by unfold FC Br;rw [e];simp [a1]]
   clear hg hs HT hx
   by_cases y1:y<0
   ·clear h e a1
    go_enter func118,ntmps118
    go_wp2_with fail
    refine (C.out ()).mono ?_
    rintro e w' ⟨rfl,rfl⟩
    go_wp2
    go_ret
    exact ⟨rfl,H.out,Fr.refl _ _ _⟩
   ·have y2:(8:Int)<=y:=by simp [Nf] at a1;omega
    clear h e a1
    go_enter func118,ntmps118
    go_wp2_with fail
    refine (C.out ()).mono ?_
    rintro e w' ⟨rfl,rfl⟩
    go_wp2
    go_ret
    exact ⟨rfl,H.out,Fr.refl _ _ _⟩
  | true=>
   have y1:¬ y<0:=by simp [Nf] at a1;omega
   have y2:¬ (8:Int)<=y:=by simp [Nf] at a1;omega
   cases a2:AO t with
   | false=>
    rw [a2] at T
    rw [show Br Y (k:Int) y t=2 by unfold Br;rw [e];simp [a1,a2],show FC Y (k:Int) y t=Y by unfold FC Br;rw [e];simp [a1,a2]]
    clear h e hg hs HT hx a1 a2
    go_enter func118,ntmps118
    go_wp2_with fail
    refine (C.out ()).mono ?_
    rintro e w' ⟨rfl,rfl⟩
    go_wp2_with fail
    refine (T.out _).mono ?_
    rintro e w' ⟨rfl,rfl⟩
    go_wp2
    go_ret
    exact ⟨rfl,H.out,Fr.refl _ _ _⟩
   | true=>
    rw [a2] at T
    cases p with
    | false=>
     rw [show Br Y (k:Int) y t=6 by unfold Br;rw [e,hg];simp [a1,a2],show FC Y (k:Int) y t=Y by unfold FC Br;rw [e,hg];simp [a1,a2]]
     clear h e hg hs HT hx a1 a2
     go_enter func118,ntmps118
     go_wp2_with fail
     refine (C.out ()).mono ?_
     rintro e w' ⟨rfl,rfl⟩
     go_wp2_with fail
     refine (T.out _).mono ?_
     rintro e w' ⟨rfl,rfl⟩
     go_wp2
     go_ret
     exact ⟨rfl,H.out,Fr.refl _ _ _⟩
    | true=>
     cases i with
     | true=>
      rw [show Br Y (k:Int) y t=6 by unfold Br;rw [e,hg];simp [a1,a2],show FC Y (k:Int) y t=Y by unfold FC Br;rw [e,hg];simp [a1,a2]]
      clear h e hg hs HT hx a1 a2
      go_enter func118,ntmps118
      go_wp2_with fail
      refine (C.out ()).mono ?_
      rintro e w' ⟨rfl,rfl⟩
      go_wp2_with fail
      refine (T.out _).mono ?_
      rintro e w' ⟨rfl,rfl⟩
      go_wp2
      go_ret
      exact ⟨rfl,H.out,Fr.refl _ _ _⟩
     | false=>
      rw [show Br Y (k:Int) y t=0 by unfold Br;rw [e,hg];simp [a1,a2],show FC Y (k:Int) y t=Y.set k ⟨true,true,y,t,st,bs⟩ by unfold FC Br;rw [e,hg];simp [a1,a2]]
      have ot:0<=t/\t<=1152921504606846976:=by simpa [AO] using a2
      have t1:=HT.out.EG hk 1 (by omega) ⟨true,true,y0,sn,st,bs⟩ (.bool true) rfl ok
      have t2:=t1.EG hk 2 (by omega) ⟨true,true,y,sn,st,bs⟩ (.int .i64 y) rfl ok
      have t3:=t2.EG hk 3 (by omega) ⟨true,true,y,t,st,bs⟩ (.int .i64 t) rfl ot
      have HR:Hid (CT _ s g (Y.set k ⟨true,true,y,t,st,bs⟩)/\Fr w.heap.size [g] w _):=⟨t3,((((Fr.refl _ _ _).st g (k*6+1) (.bool true) (by simp)).st g (k*6+2) (.int .i64 y) (by simp)).st g (k*6+3) (.int .i64 t) (by simp))⟩
      clear h e hg hs HT hx t1 t2 t3 a1 a2
      go_enter func118,ntmps118
      go_wp2_with fail
      refine (C.out ()).mono ?_
      rintro e w' ⟨rfl,rfl⟩
      go_wp2_with fail
      refine (T.out _).mono ?_
      rintro e w' ⟨rfl,rfl⟩
      go_wp2
      go_ret
      exact ⟨rfl,HR.out⟩
def aT {Y:List Kc} (w:World) (c t:Int) (h:CT w s g Y):
 Calls prog 74 #[.pointer (some ⟨s,0,none⟩),.int .i64 c,.int .i64 t] w λe w'=>e=.returned (.tuple #[.int .i64 (EK Y c t),.int .i64 (Ax Y c t)])/\CT w' s g (IJ Y c t)/\Fr w.heap.size [g] w w':=by
 have H:Hid (CT w s g Y):=h
 cases e:Bt Y.length c with
 | false=>
  have C:Hid (∀ _:Unit,_):=λ_=>IP w s g c Y h e
  have HB:Hid (CT (wc w) s g Y/\Fr w.heap.size [g] w (wc w)):=⟨h.below (BH w),IR (BH w)⟩
  rw [show EK Y c t=0 by unfold EK Ax;rw [e];rfl,show Ax Y c t=3 by unfold Ax;rw [e];rfl,show IJ Y c t=Y by unfold IJ Ax;rw [e];rfl]
  clear h e
  go_enter func74,ntmps74
  go_wp2_with fail
  refine (C.out ()).mono ?_
  rintro e w' ⟨rfl,rfl⟩
  go_wp2
  go_ret2
  exact ⟨rfl,HB.out⟩
 | true=>
  obtain ⟨k,rfl,hk⟩:=Cq e
  have C:Hid (∀ _:Unit,_):=λ_=>Fz w s g k Y h hk
  obtain ⟨x,hx⟩:∃ x,Y.getD k kz=x:=⟨_,rfl⟩
  have hg:gt Y (k:Int)=x:=(IL hk).trans hx
  have hs:=h.same hk
  rw [hx] at hs
  have ok:0<=x.since/\x.since<=1152921504606846976:=by rw [<- hg];exact IK h.ok _
  obtain ⟨c0,c1,c2,c3,c4,c5⟩:=h.DP hk hx
  have f0:=h.gb.free (k*6)
  have f1:=h.gb.free (k*6+1)
  have f2:=h.gb.free (k*6+2)
  have f3:=h.gb.free (k*6+3)
  have f4:=h.gb.free (k*6+4)
  have f5:=h.gb.free (k*6+5)
  have HT:Hid (CT w s g (Y.set k x)):=by unfold Hid;rw [hs];exact h
  obtain ⟨p,i,y0,sn,st,bs⟩:=x
  dsimp only at *
  have T:Hid (∀ w,_):=λw=>Ni t w
  cases a2:AO t with
  | false=>
   rw [a2] at T
   rw [show EK Y (k:Int) t=0 by unfold EK Ax;rw [e];simp [a2],show Ax Y (k:Int) t=2 by unfold Ax;rw [e];simp [a2],show IJ Y (k:Int) t=Y by unfold IJ Ax;rw [e];simp [a2]]
   clear h e hg hs HT hx a2
   go_enter func74,ntmps74
   go_wp2_with fail
   refine (C.out ()).mono ?_
   rintro e w' ⟨rfl,rfl⟩
   go_wp2_with fail
   refine (T.out _).mono ?_
   rintro e w' ⟨rfl,rfl⟩
   go_wp2
   go_ret2
   exact ⟨rfl,H.out,Fr.refl _ _ _⟩
  | true=>
   rw [a2] at T
   have ot:0<=t/\t<=1152921504606846976:=by simpa [AO] using a2
   cases i with
   | false=>
    rw [show EK Y (k:Int) t=0 by unfold EK Ax;rw [e,hg];simp [a2],show Ax Y (k:Int) t=6 by unfold Ax;rw [e,hg];simp [a2],show IJ Y (k:Int) t=Y by unfold IJ Ax;rw [e,hg];simp [a2]]
    clear h e hg hs HT hx a2
    go_enter func74,ntmps74
    go_wp2_with fail
    refine (C.out ()).mono ?_
    rintro e w' ⟨rfl,rfl⟩
    go_wp2_with fail
    refine (T.out _).mono ?_
    rintro e w' ⟨rfl,rfl⟩
    go_wp2
    go_ret2
    exact ⟨rfl,H.out,Fr.refl _ _ _⟩
   | true=>
    have U:Hid (∀ _:Unit,_):=λ_=>aR w g (k*6) c1 c2 c3 f1 f2 f3
    rw [show EK Y (k:Int) t=(if t<=sn then 0 else t-sn) by unfold EK Ax;rw [e,hg];simp [a2],show Ax Y (k:Int) t=0 by unfold Ax;rw [e,hg];simp [a2],show IJ Y (k:Int) t=Y.set k ⟨p,false,0,0,st,bs⟩ by unfold IJ Ax;rw [e,hg];simp [a2]]
    have t2:=HT.out.EG hk 1 (by omega) ⟨p,false,y0,sn,st,bs⟩ (.bool false) rfl ok
    have t3:=t2.EG hk 2 (by omega) ⟨p,false,0,sn,st,bs⟩ (.int .i64 0) rfl ok
    have t4:=t3.EG hk 3 (by omega) ⟨p,false,0,0,st,bs⟩ (.int .i64 0) rfl ⟨AFJ 0,by show (0:Int)<=_;omega⟩
    have HR:Hid (CT _ s g (Y.set k ⟨p,false,0,0,st,bs⟩)/\Fr w.heap.size [g] w _):=⟨t4,((((Fr.refl _ _ _).st g (k*6+1) (.bool false) (by simp)).st g (k*6+2) (.int .i64 0) (by simp)).st g (k*6+3) (.int .i64 0) (by simp))⟩
    have wr:wrap64 (t-sn)=t-sn:=by simp only [wrap64];omega
    obtain ⟨v,hv⟩:∃ v,t-sn=v:=⟨_,rfl⟩
    have hq:(if t<=sn then 0 else t-sn)=max v 0:=by split <;> omega
    rw [hq]
    rw [hv] at wr
    rw [<- hv] at wr
    have wr2:wrap64 (t-sn)=v:=wr.trans hv
    clear h e hg hs HT hx a2 t2 t3 t4 wr hq hv ok ot
    by_cases m:0<v
    ·rw [show max v 0=v by omega]
     go_enter func74,ntmps74
     go_wp2_with fail
     refine (C.out ()).mono ?_
     rintro e w' ⟨rfl,rfl⟩
     go_wp2_with fail
     refine (T.out _).mono ?_
     rintro e w' ⟨rfl,rfl⟩
     go_wp2_with fail
     refine (U.out ()).mono ?_
     rintro e w' ⟨rfl,rfl⟩
     go_wp2
     go_ret2
     exact ⟨rfl,HR.out⟩
    ·rw [show max v 0=0 by omega]
     by_cases m2:v<0
     ·skip
      go_enter func74,ntmps74
      go_wp2_with fail
      refine (C.out ()).mono ?_
      rintro e w' ⟨rfl,rfl⟩
      go_wp2_with fail
      refine (T.out _).mono ?_
      rintro e w' ⟨rfl,rfl⟩
      go_wp2_with fail
      refine (U.out ()).mono ?_
      rintro e w' ⟨rfl,rfl⟩
      go_wp2
      go_ret2
      exact ⟨rfl,HR.out⟩
     ·obtain rfl:v=0:=by omega
      clear m m2
      go_enter func74,ntmps74
      go_wp2_with fail
      refine (C.out ()).mono ?_
      rintro e w' ⟨rfl,rfl⟩
      go_wp2_with fail
      refine (T.out _).mono ?_
      rintro e w' ⟨rfl,rfl⟩
      go_wp2_with fail
      refine (U.out ()).mono ?_
      rintro e w' ⟨rfl,rfl⟩
      go_wp2
      go_ret2
      exact ⟨rfl,HR.out⟩
def XB {Y:List Kc} (w:World) (c:Int) (b:Bool) (h:CT w s g Y):
 Calls prog 73 #[.pointer (some ⟨s,0,none⟩),.int .i64 c,.bool b] w λe w'=>e=.returned (.int .i64 (FB Y c))/\CT w' s g (Ng Y c b)/\Fr w.heap.size [g] w w':=by
 have H:Hid (CT w s g Y):=h
 cases e:Bt Y.length c with
 | false=>
  have C:Hid (∀ _:Unit,_):=λ_=>IP w s g c Y h e
  have HB:Hid (CT (wc w) s g Y/\Fr w.heap.size [g] w (wc w)):=⟨h.below (BH w),IR (BH w)⟩
  rw [show FB Y c=3 by unfold FB;rw [e];rfl,show Ng Y c b=Y by unfold Ng;rw [e];rfl]
  clear h e
  go_enter func73,ntmps73
  go_wp2_with fail
  refine (C.out ()).mono ?_
  rintro e w' ⟨rfl,rfl⟩
  go_wp2
  go_ret
  exact ⟨rfl,HB.out⟩
 | true=>
  obtain ⟨k,rfl,hk⟩:=Cq e
  have C:Hid (∀ _:Unit,_):=λ_=>Fz w s g k Y h hk
  obtain ⟨x,hx⟩:∃ x,Y.getD k kz=x:=⟨_,rfl⟩
  have hg:gt Y (k:Int)=x:=(IL hk).trans hx
  have hs:=h.same hk
  rw [hx] at hs
  have ok:0<=x.since/\x.since<=1152921504606846976:=by rw [<- hg];exact IK h.ok _
  obtain ⟨c0,c1,c2,c3,c4,c5⟩:=h.DP hk hx
  have f0:=h.gb.free (k*6)
  have f1:=h.gb.free (k*6+1)
  have f2:=h.gb.free (k*6+2)
  have f3:=h.gb.free (k*6+3)
  have f4:=h.gb.free (k*6+4)
  have f5:=h.gb.free (k*6+5)
  have HT:Hid (CT w s g (Y.set k x)):=by unfold Hid;rw [hs];exact h
  obtain ⟨p,i,y0,sn,st,bs⟩:=x
  dsimp only at *
  have hi1:Hid (inc st=wrap64 (st+1)):=rfl
  have hi2:Hid (inc bs=wrap64 (bs+1)):=rfl
  rw [show FB Y (k:Int)=0 by unfold FB;rw [e];rfl]
  have t1:=HT.out.EG hk 4 (by omega) ⟨p,i,y0,sn,inc st,bs⟩ (.int .i64 (inc st)) rfl ok
  cases b with
  | false=>
   rw [show Ng Y (k:Int) false=Y.set k ⟨p,i,y0,sn,inc st,bs⟩ by unfold Ng;rw [e,hg];rfl]
   have HR:Hid (CT (w.setCell ⟨g,k*6+4,none⟩ (.int .i64 (inc st))) s g (Y.set k ⟨p,i,y0,sn,inc st,bs⟩)/\Fr w.heap.size [g] w (w.setCell ⟨g,k*6+4,none⟩ (.int .i64 (inc st)))):=⟨t1,(Fr.refl _ _ _).st g _ _ (by simp)⟩
   clear h e hg hs HT hx t1
   go_enter func73,ntmps73
   go_wp2_with fail
   refine (C.out ()).mono ?_
   rintro e w' ⟨rfl,rfl⟩
   go_wp2
   go_ret
   exact ⟨rfl,HR.out⟩
  | true=>
   rw [show Ng Y (k:Int) true=Y.set k ⟨p,i,y0,sn,inc st,inc bs⟩ by unfold Ng;rw [e,hg];rfl]
   have t2:=t1.EG hk 5 (by omega) ⟨p,i,y0,sn,inc st,inc bs⟩ (.int .i64 (inc bs)) rfl ok
   have HR:Hid (CT ((w.setCell ⟨g,k*6+4,none⟩ (.int .i64 (inc st))).setCell ⟨g,k*6+5,none⟩ (.int .i64 (inc bs))) s g (Y.set k ⟨p,i,y0,sn,inc st,inc bs⟩)/\Fr w.heap.size [g] w ((w.setCell ⟨g,k*6+4,none⟩ (.int .i64 (inc st))).setCell ⟨g,k*6+5,none⟩ (.int .i64 (inc bs)))):=⟨t2,((Fr.refl _ _ _).st g _ _ (by simp)).st g _ _ (by simp)⟩
   clear h e hg hs HT hx t1 t2
   go_enter func73,ntmps73
   go_wp2_with fail
   refine (C.out ()).mono ?_
   rintro e w' ⟨rfl,rfl⟩
   go_wp2
   go_ret
   exact ⟨rfl,HR.out⟩
def Jq {Y:List Kc} (w:World) (c:Int) (h:CT w s g Y):
 Calls prog 270 #[.pointer (some ⟨s,0,none⟩),.int .i64 c] w λe w'=>e=.returned (.tuple #[.int .i64 (gt Y c).busy,.int .i64 (gt Y c).steps,.int .i64 (FB Y c)])/\CT w' s g (Sj Y c)/\Fr w.heap.size [g] w w':=by
 have H:Hid (CT w s g Y):=h
 cases e:Bt Y.length c with
 | false=>
  have C:Hid (∀ _:Unit,_):=λ_=>IP w s g c Y h e
  have HB:Hid (CT (wc w) s g Y/\Fr w.heap.size [g] w (wc w)):=⟨h.below (BH w),IR (BH w)⟩
  rw [show gt Y c=kz by unfold gt;rw [e];rfl,show FB Y c=3 by unfold FB;rw [e];rfl,show Sj Y c=Y by unfold Sj;rw [e];rfl]
  have k4:(wc w).cell? ⟨w.heap.size,4,none⟩=some (.int .i64 0):=(IQ w).cell 4
  have k5:(wc w).cell? ⟨w.heap.size,5,none⟩=some (.int .i64 0):=(IQ w).cell 5
  have f4:=(IQ w).free 4
  have f5:=(IQ w).free 5
  have HB2:Hid (∀ n u v,CT ((((wc w).drewN n).setCell ⟨w.heap.size,5,none⟩ u).setCell ⟨w.heap.size,4,none⟩ v) s g Y/\Fr w.heap.size [g] w ((((wc w).drewN n).setCell ⟨w.heap.size,5,none⟩ u).setCell ⟨w.heap.size,4,none⟩ v)):=λn u v=>by
   have b:=ABw w n u v
   exact ⟨h.below b,IR b⟩
  generalize wc w=wn at *
  clear h e
  go_enter func270,ntmps270
  go_wp2_with fail
  refine (C.out ()).mono ?_
  rintro e w' ⟨rfl,rfl⟩
  go_wp2
  go_quiet (fail)
  go_wp2
  go_ret3
  exact ⟨rfl,HB2.out _ _ _⟩
 | true=>
  obtain ⟨k,rfl,hk⟩:=Cq e
  have C:Hid (∀ _:Unit,_):=λ_=>Fz w s g k Y h hk
  obtain ⟨x,hx⟩:∃ x,Y.getD k kz=x:=⟨_,rfl⟩
  have hg:gt Y (k:Int)=x:=(IL hk).trans hx
  have hs:=h.same hk
  rw [hx] at hs
  have ok:0<=x.since/\x.since<=1152921504606846976:=by rw [<- hg];exact IK h.ok _
  obtain ⟨c0,c1,c2,c3,c4,c5⟩:=h.DP hk hx
  have f0:=h.gb.free (k*6)
  have f1:=h.gb.free (k*6+1)
  have f2:=h.gb.free (k*6+2)
  have f3:=h.gb.free (k*6+3)
  have f4:=h.gb.free (k*6+4)
  have f5:=h.gb.free (k*6+5)
  have HT:Hid (CT w s g (Y.set k x)):=by unfold Hid;rw [hs];exact h
  obtain ⟨p,i,y0,sn,st,bs⟩:=x
  dsimp only at *
  rw [hg,show FB Y (k:Int)=0 by unfold FB;rw [e];rfl,show Sj Y (k:Int)=Y.set k ⟨p,i,y0,sn,0,0⟩ by unfold Sj;rw [e,hg];rfl]
  have t1:=HT.out.EG hk 5 (by omega) ⟨p,i,y0,sn,st,0⟩ (.int .i64 0) rfl ok
  have t2:=t1.EG hk 4 (by omega) ⟨p,i,y0,sn,0,0⟩ (.int .i64 0) rfl ok
  have HR:Hid (∀ wd:World,wd.heap=w.heap->wd.os=w.os->wd.tape=w.tape->wd.output=w.output->CT ((wd.setCell ⟨g,k*6+5,none⟩ (.int .i64 0)).setCell ⟨g,k*6+4,none⟩ (.int .i64 0)) s g (Y.set k ⟨p,i,y0,sn,0,0⟩)/\Fr w.heap.size [g] w ((wd.setCell ⟨g,k*6+5,none⟩ (.int .i64 0)).setCell ⟨g,k*6+4,none⟩ (.int .i64 0))):=λwd e1 e2 e3 e4=>⟨t2.heap (by simp only [World.setCell,e1]),((Sm.fr (w1:=wd) ⟨e1,e2,e3,e4⟩ (Fr.refl _ _ _)).st g _ _ (by simp)).st g _ _ (by simp)⟩
  clear h e hg hs HT hx t1 t2
  go_enter func270,ntmps270
  go_wp2_with fail
  refine (C.out ()).mono ?_
  rintro e w' ⟨rfl,rfl⟩
  go_wp2
  go_quiet (fail)
  go_wp2
  go_ret3
  exact ⟨rfl,HR.out _ rfl rfl rfl rfl⟩
def aU {x:Kc} {e:Int} {tmps:Array Value} (h:AB w z (ck.f x) 113) (h4:tmps.getD 4 undef=.pointer (some ⟨z,0,none⟩)) (h5:tmps.getD 5 undef=.int .i64 e):
 (results Tryz.f48 tmps).run prog w=.ok (.tuple #[Nh x,.int .i64 e]) w:=by
 have q0:w.cell? ⟨z,0,none⟩=some (.bool x.p):=h.cell 0
 have q1:w.cell? ⟨z,1,none⟩=some (.bool x.i):=h.cell 1
 have q2:w.cell? ⟨z,2,none⟩=some (.int .i64 x.way):=h.cell 2
 have q3:w.cell? ⟨z,3,none⟩=some (.int .i64 x.since):=h.cell 3
 have q4:w.cell? ⟨z,4,none⟩=some (.int .i64 x.steps):=h.cell 4
 have q5:w.cell? ⟨z,5,none⟩=some (.int .i64 x.busy):=h.cell 5
 rw [results_cell_tmp (p:=4) (u:=5) (ty:=113) rfl,h4,h5]
 simp [go_sem,q0,q1,q2,q3,q4,q5,Nh]
def DP (w:World) (z:Nat) (x:Kc):World:=(((((w.setCell ⟨z,0,none⟩ (.bool x.p)).setCell ⟨z,1,none⟩ (.bool x.i)).setCell ⟨z,2,none⟩ (.int .i64 x.way)).setCell ⟨z,3,none⟩ (.int .i64 x.since)).setCell ⟨z,4,none⟩ (.int .i64 x.steps)).setCell ⟨z,5,none⟩ (.int .i64 x.busy)
def qF {y:Kc} (x:Kc) (h:AB w z (ck.f y) 113):AB (DP w z x) z (ck.f x) 113:=(((((h.set 0 _).set 1 _).set 2 _).set 3 _).set 4 _).set 5 _
def aV {B:Nat} {a:World} (x:Kc) (h:Below B a w) (hz:B<=z):Below B a (DP w z x):=by
 have h0:=h.setCell (p:=⟨z,0,none⟩) hz (.bool x.p)
 have h1:=h0.setCell (p:=⟨z,1,none⟩) hz (.bool x.i)
 have h2:=h1.setCell (p:=⟨z,2,none⟩) hz (.int .i64 x.way)
 have h3:=h2.setCell (p:=⟨z,3,none⟩) hz (.int .i64 x.since)
 have h4:=h3.setCell (p:=⟨z,4,none⟩) hz (.int .i64 x.steps)
 exact h4.setCell (p:=⟨z,5,none⟩) hz (.int .i64 x.busy)
def Sk {ps:Value} {c er:Int} {gb o:Nat} {x:Kc} (w2:World) (B2:Below (wc w).heap.size (wc w) w2)
 (C:∀ _:Unit,Calls prog 97 #[ps,.int .i64 c] (wc w) λe w'=>e=.returned (.tuple #[.pointer (some ⟨gb,o,none⟩),.int .i64 er])/\w'=w2)
 (c0:w2.cell? ⟨gb,o,none⟩=some (.bool x.p)) (c1:w2.cell? ⟨gb,o+1,none⟩=some (.bool x.i)) (c2:w2.cell? ⟨gb,o+2,none⟩=some (.int .i64 x.way)) (c3:w2.cell? ⟨gb,o+3,none⟩=some (.int .i64 x.since)) (c4:w2.cell? ⟨gb,o+4,none⟩=some (.int .i64 x.steps)) (c5:w2.cell? ⟨gb,o+5,none⟩=some (.int .i64 x.busy)):
 Calls prog 48 #[ps,.int .i64 c] w λe w'=>e=.returned (.tuple #[Nh x,.int .i64 er])/\Below w.heap.size w w':=by
 obtain ⟨wa,hwa⟩:∃ wa,wc w=wa:=⟨_,rfl⟩
 have HWA:Hid (w.alloc (.cells #[.bool false,.bool false,.int .i64 0,.int .i64 0,.int .i64 0,.int .i64 0] 113)=wa):=hwa
 have hb:=BH w
 have hk:=IQ w
 rw [hwa] at hb hk B2 C
 have C1:Hid (∀ _:Unit,_):=C
 have hk2:AB w2 w.heap.size (ck.f kz) 113:=(B2.block _ hk.lt).trans hk
 have hb2:Below w.heap.size w w2:=hb.trans (B2.mono hb.size)
 obtain ⟨z,hz⟩:∃ z,w.heap.size=z:=⟨_,rfl⟩
 have HZ:Hid (w.heap.size=z):=hz
 rw [hz] at hk hk2 hb2 ⊢
 have z0:w2.cell? ⟨z,0,none⟩=some (.bool false):=hk2.cell 0
 have z1:w2.cell? ⟨z,1,none⟩=some (.bool false):=hk2.cell 1
 have z2:w2.cell? ⟨z,2,none⟩=some (.int .i64 0):=hk2.cell 2
 have z3:w2.cell? ⟨z,3,none⟩=some (.int .i64 0):=hk2.cell 3
 have z4:w2.cell? ⟨z,4,none⟩=some (.int .i64 0):=hk2.cell 4
 have z5:w2.cell? ⟨z,5,none⟩=some (.int .i64 0):=hk2.cell 5
 have f0:=hk2.free 0
 have f1:=hk2.free 1
 have f2:=hk2.free 2
 have f3:=hk2.free 3
 have f4:=hk2.free 4
 have f5:=hk2.free 5
 have HB:Hid (AB (DP w2 z x) z (ck.f x) 113/\Below z w (DP w2 z x)):=⟨qF x hk2,aV x hb2 (ADW _)⟩
 clear hwa hb hk hz C B2 hk2 hb2
 go_enter func48,ntmps48
 go_wp2_with fail
 rw [HWA.out,HZ.out]
 refine (C1.out ()).mono ?_
 rintro e w' ⟨rfl,rfl⟩
 go_wp2
 exact bodyPost_ret (aU HB.out.1 rfl rfl) rfl ⟨rfl,HB.out.2⟩
def gM {Y:List Kc} (w:World) (c:Int) (h:CT w s g Y):
 Calls prog 48 #[.pointer (some ⟨s,0,none⟩),.int .i64 c] w λe w'=>e=.returned (.tuple #[Nh (gt Y c),.int .i64 (FB Y c)])/\Below w.heap.size w w':=by
 have h1:=h.below (BH w)
 cases e:Bt Y.length c with
 | false=>
  rw [show gt Y c=kz by unfold gt;rw [e];rfl,show FB Y c=3 by unfold FB;rw [e];rfl]
  have k:=IQ (wc w)
  exact Sk (wc (wc w)) (BH _) (λ_=>IP (wc w) s g c Y h1 e) (k.cell 0) (k.cell 1) (k.cell 2) (k.cell 3) (k.cell 4) (k.cell 5)
 | true=>
  obtain ⟨k,rfl,hk⟩:=Cq e
  rw [IL hk,show FB Y (k:Int)=0 by unfold FB;rw [e];rfl]
  obtain ⟨c0,c1,c2,c3,c4,c5⟩:=h1.DP hk rfl
  exact Sk (wc w) (Below.refl _ _) (λ_=>Fz (wc w) s g k Y h1 hk) c0 c1 c2 c3 c4 c5
end Go.Proofs.YtdlhlfpigcgapaaGreatDoor.Cor

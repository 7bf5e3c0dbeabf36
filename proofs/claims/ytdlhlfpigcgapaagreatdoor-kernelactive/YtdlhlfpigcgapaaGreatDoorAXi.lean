import Derived.Test.YtdlhlfpigcgapaaGreatDoorAZal
import Derived.Test.YtdlhlfpigcgapaaGreatDoorAXb
import Derived.Laws.ResultCell
import Derived.Deep.MidRow
set_option maxRecDepth 100000
set_option maxHeartbeats 16000000
set_option linter.unusedVariables false
set_option linter.unusedSimpArgs false
set_option linter.defProp false
namespace Go.Proofs.YtdlhlfpigcgapaaGreatDoor.Bm
open Go.Proofs.Tryz
open Mm
variable {n:Int} {i:Nat}
structure Iq where
 wt:Bool
 ms:Bool
 pd:Bool
 bs:Nat
def zi:Iq:=⟨false,false,false,0⟩
def nw (m:Nat):Iq:=⟨true,false,false,m⟩
def sx (X:Nat->Iq) (i:Nat) (t:Iq):Nat->Iq:=λj=>if j=i then t else X j
def Fo (X:Nat->Iq) (i:Nat) (t:Iq):sx X i t i=t:=AHi rfl
def Lp (X:Nat->Iq) {j:Nat} (h:j≠i) (t:Iq):sx X i t j=X j:=AHh h
def Qc (X:Nat->Iq) (i:Nat) (t u:Iq):sx (sx X i t) i u=sx X i u:=by
 funext j
 unfold sx
 split <;> rfl
def is (n:Int):Bool:=decide (0<=n/\n<16)
def can (c m:Nat):Bool:=decide (m≠0)&&decide (nt m (up (c:Int))=0)
def Y5 (t:Iq):Bool:=t.wt&&t.pd&&!t.ms
def FV (n:Int):Int:=if is n=true then 0 else 3
def Aa (X:Nat->Iq) (n:Int):Int:=if is n=true then (if (X n.toNat).wt=true then 0 else 4) else 3
def EA (c:Nat) (X:Nat->Iq) (n:Int) (m:Nat):Int:=if is n=true then (if (X n.toNat).wt=true then 6 else if can c m=true then 0 else 2) else 3
def B8 (c:Nat) (X:Nat->Iq) (n:Int) (m:Nat):Int:=if Aa X n=0 then (if can c m=true then 0 else 2) else Aa X n
def EC (X:Nat->Iq) (n:Int) (b:Bool):Int:=if Aa X n=0 then (if (X n.toNat).ms=b then 6 else 0) else Aa X n
def Jn (X:Nat->Iq) (n:Int):Int:=if Aa X n=0 then (if Y5 (X n.toNat)=true then 0 else 12) else Aa X n
def A7 (e:Int) (X:Nat->Iq) (n:Int) (t:Iq):Nat->Iq:=if e=0 then sx X n.toNat t else X
def Ci (X:Nat->Iq) (n:Int) (t:Iq):A7 0 X n t=sx X n.toNat t:=AHi rfl
def BN {e:Int} (h:e≠0) (X:Nat->Iq) (n:Int) (t:Iq):A7 e X n t=X:=AHh h
def GR (X:Nat->Iq) (n:Int):Bool:=is n&&Y5 (X n.toNat)
def Cc (X:Nat->Iq) (n:Int):Iq:=if is n=true then X n.toNat else zi
def DI (h:is n=true):∃ i:Nat,i<16/\n=(i:Int)/\n.toNat=i:=by
 have:=of_decide_eq_true h
 exact ⟨n.toNat,by omega,by omega,rfl⟩
def Do (h:is n=false):n<0\/16<=n:=by
 have:=of_decide_eq_false h
 omega
def wE (h:i<16):is (i:Int)=true:=AHj (by omega)
def H6 {X:Nat->Iq} (h:Aa X n=0):∃ i:Nat,i<16/\n=(i:Int)/\n.toNat=i/\(X i).wt=true:=by
 unfold Aa at h
 by_cases e:is n=true
 ·rw [AHi e] at h
  obtain ⟨i,h1,h2,h3⟩:=DI e
  rw [h3] at h
  cases q:(X i).wt with
  | true=>exact ⟨i,h1,h2,h3,q⟩
  | false=>rw [q] at h;simp at h
 ·rw [AHh e] at h
  omega
def wF {X:Nat->Iq} (h:i<16) (q:(X i).wt=true):Aa X (i:Int)=0:=by
 unfold Aa
 rw [AHi (wE h),AD4,AHi q]
end Go.Proofs.YtdlhlfpigcgapaaGreatDoor.Bm
namespace Go.Proofs.YtdlhlfpigcgapaaGreatDoor.Irq
open Go.Proofs.Tryz
open Go.ChangeShapes Go.WideShapes Go.ChangeAt Go.RowKit
open Mm Bm
variable {X:Nat->Iq} {cs:List Value} {a w:World} {B c g i o s z:Nat} {S:List Nat} {t:Iq}
def FO (cs:List Value) (o:Nat) (t:Iq):Prop:=
 cs[o]?=some (.bool t.wt)/\cs[o+1]?=some (.bool t.ms)/\cs[o+2]?=some (.bool t.pd)/\cs[o+3]?=some (.int .u64 (t.bs:Int))
structure Y6 (cs:List Value) (c:Nat) (X:Nat->Iq):Prop where
 len:cs.length=65
 m:cs[0]?=some (.int .u64 ((up (c:Int):Nat):Int))
 t:∀ i,i<16->FO cs (1+i*4) (X i)
def Y6.EL {cs':List Value} (h:Y6 cs c X) (hl:cs'.length=cs.length) (ho:∀ k,(k<1+i*4\/1+i*4+4<=k)->cs'[k]?=cs[k]?) (h4:FO cs' (1+i*4) t):Y6 cs' c (sx X i t):=by
 refine ⟨hl.trans h.len,(ho 0 (by omega)).trans h.m,λj hj=>?_⟩
 by_cases e:j=i
 ·subst e
  rw [Fo]
  exact h4
 ·rw [Lp X e]
  obtain ⟨a0,a1,a2,a3⟩:=h.t j hj
  exact ⟨(ho _ (by omega)).trans a0,(ho _ (by omega)).trans a1,(ho _ (by omega)).trans a2,(ho _ (by omega)).trans a3⟩
structure IT (w:World) (s c:Nat) (X:Nat->Iq):Prop where
 bk:∃ cs,AB w s cs 159/\Y6 cs c X
 c1:1<=c
 c2:c<=64
def IT.lt {w:World} {s c:Nat} {X:Nat->Iq} (h:IT w s c X):s<w.heap.size:=by
 obtain ⟨cs,hb,_⟩:=h.bk
 exact hb.lt
def IT.AA {B:Nat} {S:List Nat} {w w':World} {s c:Nat} {X:Nat->Iq} (h:IT w s c X) (f:Fr B S w w') (hB:s<B) (hS:s∉S):IT w' s c X:=by
 obtain ⟨cs,hb,hc⟩:=h.bk
 exact ⟨⟨cs,hb.AA f hB hS,hc⟩,h.c1,h.c2⟩
def IT.below {w':World} (h:IT w s c X) (f:Below w.heap.size w w'):IT w' s c X:=h.AA (Fr.AE f) h.lt (by simp)
def IT.k0 (h:IT w s c X):w.cell? ⟨s,0,none⟩=some (.int .u64 ((up (c:Int):Nat):Int)):=by
 obtain ⟨cs,hb,hc⟩:=h.bk
 rw [hb.cell,hc.m]
def IT.free {w:World} {s c:Nat} {X:Nat->Iq} (h:IT w s c X) (k:Nat):w.frozen? ⟨s,k,none⟩=false:=by
 obtain ⟨cs,hb,hc⟩:=h.bk
 exact hb.free k
def IT.four (h:IT w s c X) (hi:i<16):
 w.cell? ⟨s,1+i*4,none⟩=some (.bool (X i).wt)/\w.cell? ⟨s,1+i*4+1,none⟩=some (.bool (X i).ms)/\w.cell? ⟨s,1+i*4+2,none⟩=some (.bool (X i).pd)/\w.cell? ⟨s,1+i*4+3,none⟩=some (.int .u64 ((X i).bs:Int)):=by
 obtain ⟨cs,hb,hc⟩:=h.bk
 obtain ⟨a0,a1,a2,a3⟩:=hc.t i hi
 exact ⟨(hb.cell _).trans a0,(hb.cell _).trans a1,(hb.cell _).trans a2,(hb.cell _).trans a3⟩
def Pj (m:Nat) (w:World) (hm:m<18446744073709551616) (h:IT w s c X):
 Calls prog 277 #[.pointer (some ⟨s,0,none⟩),.int .u64 (m:Int)] w λe w'=>e=.returned (.bool (can c m))/\w'=w:=by
 have C1:Hid (∀ w,_):=λw=>CQ m w hm
 have k0:=h.k0
 by_cases h0:m=0
 ·subst h0
  rw [show can c 0=false from rfl]
  rw [show (ls 0).length=0 by rw [ET];rfl] at C1
  clear h k0 hm
  go_enter func277,ntmps277
  go_wp2_with fail
  refine (C1.out _).mono ?_
  rintro e w' ⟨rfl,rfl⟩
  go_wp2
  go_ret
  exact ⟨rfl,rfl⟩
 ·have C2:Hid (∀ w,_):=λw=>LA m (up (c:Int)) w hm (Dy _)
  have hp:(0:Int)<((ls m).length:Int):=by
   have:(ls m).length≠0:=λe=>h0 (Er m hm (ADh e))
   omega
  have hl:=KU m
  rw [show can c m=(((nt m (up (c:Int)):Nat):Int)==0) by
   unfold can
   rw [AHj h0,AEC]
   by_cases e:nt m (up (c:Int))=0
   ·rw [e];rfl
   ·rw [AHk e];symm;rw [AHl];omega]
  generalize nt m (up (c:Int))=P at *
  generalize up (c:Int)=U at *
  generalize (ls m).length=n at *
  clear h hm h0
  go_enter func277,ntmps277
  go_wp2_with fail
  refine (C1.out _).mono ?_
  rintro e w' ⟨rfl,rfl⟩
  go_wp2_with fail
  refine (C2.out _).mono ?_
  rintro e w' ⟨rfl,rfl⟩
  go_wp2
  go_ret
  exact ⟨rfl,rfl⟩
def U1 (L:List Value) (hL:L.length=4):∀ n i j,i<n->j<4->(List.replicate n L).flatten[i*4+j]?=L[j]?
 | 0,i,j,h,_=>by omega
 | n+1,i,j,h,hj=>by
  rw [AEw,List.flatten_cons]
  cases i with
  | zero=>rw [ADl (by omega),AEy,ADs]
  | succ i=>rw [ADj (by omega),show (i+1)*4+j-L.length=i*4+j by omega];exact U1 L hL n i j (by omega) hj
def z4:List Value:=[.bool false,.bool false,.bool false,.int .u64 0]
def wG:Tryz.zeroCells159.toList=.int .u64 0::(List.replicate 16 z4).flatten:=by kernel_rfl
def oH (c:Nat):Y6 (Tryz.zeroCells159.setIfInBounds 0 (.int .u64 ((up (c:Int):Nat):Int))).toList c λ_=>zi:=by
 rw [AF3,wG]
 simp only [AD5]
 refine ⟨by rfl,rfl,λi hi=>?_⟩
 have g:∀ j,j<4->(.int .u64 ((up (c:Int):Nat):Int)::(List.replicate 16 z4).flatten:List Value)[1+i*4+j]?=z4[j]?:=λj hj=>by
  rw [show 1+i*4+j=i*4+j+1 by omega,ADf]
  exact U1 z4 rfl 16 i j hi hj
 exact ⟨g 0 (by omega),g 1 (by omega),g 2 (by omega),g 3 (by omega)⟩
def Y7 (c:Nat) (w:World) (h1:(1:Int)<=c) (h2:(c:Int)<=64):
 Calls prog 29 #[.int .i64 (c:Int)] w λe w'=>e=.returned (.tuple #[.pointer (some ⟨w.heap.size,0,none⟩),.int .i64 0])/\IT w' w.heap.size c (λ_=>zi)/\Below w.heap.size w w'/\w'.heap.size=w.heap.size+1:=by
 have C2:Hid (∀ w,_):=λw=>Dj (c:Int) w
 go_enter func29,ntmps29
 go_wp2_with fail
 refine (C2.out _).mono ?_
 rintro e w2 ⟨rfl,rfl⟩
 go_wp2
 go_ret2
 refine ⟨rfl,⟨⟨_,?_,oH c⟩,by omega,by omega⟩,(Below.refl _ _).alloc (ADW _) _,by simp⟩
 have:=AB.new w2 (Tryz.zeroCells159.setIfInBounds 0 (.int .u64 ((up (c:Int):Nat):Int))).toList 159
 rw [AEn] at this
 exact this
def GU (w:World) (hi:(i:Int)<16):
 Calls prog 237 #[.pointer (some ⟨s,0,none⟩),.int .i64 (i:Int)] w λe w'=>e=.returned (.tuple #[.pointer (some ⟨s,1+i*4,none⟩),.int .i64 0])/\w'=w:=by
 go_enter func237,ntmps237
 go_wp2
 go_ret2
 exact ⟨rfl,rfl⟩
def Kp (n:Int) (w:World) (h:n<0\/16<=n):
 Calls prog 237 #[.pointer (some ⟨s,0,none⟩),.int .i64 n] w λe w'=>e=.returned (.tuple #[.pointer none,.int .i64 3])/\w'=w:=by
 rcases h with h | h
 ·go_enter func237,ntmps237
  go_wp2
  go_ret2
  exact ⟨rfl,rfl⟩
 ·have h2:(0:Int)<=n:=by omega
  go_enter func237,ntmps237
  go_wp2
  go_ret2
  exact ⟨rfl,rfl⟩
def GY (w:World) (h:IT w s c X) (hi:(i:Int)<16) (q:(X i).wt=true):
 Calls prog 191 #[.pointer (some ⟨s,0,none⟩),.int .i64 (i:Int)] w λe w'=>e=.returned (.tuple #[.pointer (some ⟨s,1+i*4,none⟩),.int .i64 0])/\w'=w:=by
 have C:Hid (∀ w,_):=λw=>GU (s:=s) w hi
 obtain ⟨a0,-,-,-⟩:=h.four (i:=i) (by omega)
 rw [q] at a0
 clear h q
 go_enter func191,ntmps191
 go_wp2_with fail
 refine (C.out _).mono ?_
 rintro e w' ⟨rfl,rfl⟩
 go_wp2
 go_ret2
 exact ⟨rfl,rfl⟩
def H7 (n:Int) (w:World) (h:IT w s c X) (hn:Aa X n≠0):
 Calls prog 191 #[.pointer (some ⟨s,0,none⟩),.int .i64 n] w λe w'=>e=.returned (.tuple #[.pointer none,.int .i64 (Aa X n)])/\w'=w:=by
 cases e:is n with
 | false=>
  have C:Hid (∀ w,_):=λw=>Kp (s:=s) n w (Do e)
  rw [show Aa X n=3 by unfold Aa;rw [e];rfl]
  clear h e hn
  go_enter func191,ntmps191
  go_wp2_with fail
  refine (C.out _).mono ?_
  rintro e w' ⟨rfl,rfl⟩
  go_wp2
  go_ret2
  exact ⟨rfl,rfl⟩
 | true=>
  obtain ⟨i,hi,rfl,e2⟩:=DI e
  have q:(X i).wt=false:=by
   cases q:(X i).wt with
   | false=>rfl
   | true=>exact absurd (wF hi q) hn
  rw [show Aa X (i:Int)=4 by unfold Aa;rw [e,e2,q];rfl]
  have hi2:(i:Int)<16:=by omega
  have C:Hid (∀ w,_):=λw=>GU (s:=s) w hi2
  obtain ⟨a0,-,-,-⟩:=h.four hi
  rw [q] at a0
  clear h q e hn e2
  go_enter func191,ntmps191
  go_wp2_with fail
  refine (C.out _).mono ?_
  rintro e w' ⟨rfl,rfl⟩
  go_wp2
  go_ret2
  exact ⟨rfl,rfl⟩
def wH (t:Iq):Value:=.agg #[.bool t.wt,.bool t.ms,.bool t.pd,.int .u64 (t.bs:Int)]
def Pk (a b d:Bool) (m:Int) (w:World):
 Calls prog 192 #[.agg #[.bool a,.bool b,.bool d,.int .u64 m]] w λe w'=>e=.returned (.bool (a&&d&&!b))/\Below w.heap.size w w':=by
 have BB:Hid (∀ o,Below w.heap.size w (w.alloc o)):=λo=>(Below.refl _ _).alloc (ADW _) o
 cases a <;> cases d <;> cases b
 all_goals (
  go_enter func192,ntmps192
  go_wp2
  go_ret
  exact ⟨rfl,BB.out _⟩)
def Tq (n:Int) (w:World) (h:IT w s c X):
 Calls prog 174 #[.pointer (some ⟨s,0,none⟩),.int .i64 n] w λe w'=>e=.returned (.bool (GR X n))/\Below w.heap.size w w':=by
 cases e:is n with
 | false=>
  have C:Hid (∀ w,_):=λw=>Kp (s:=s) n w (Do e)
  rw [show GR X n=false by unfold GR;rw [e];rfl]
  clear h e
  go_enter func174,ntmps174
  go_wp2_with fail
  refine (C.out _).mono ?_
  rintro e w' ⟨rfl,rfl⟩
  go_wp2
  go_ret
  exact ⟨rfl,Below.refl _ _⟩
 | true=>
  obtain ⟨i,hi,rfl,e2⟩:=DI e
  rw [show GR X (i:Int)=Y5 (X i) by unfold GR;rw [e,e2];rfl]
  have hi2:(i:Int)<16:=by omega
  have C:Hid (∀ w,_):=λw=>GU (s:=s) w hi2
  have D:Hid (∀ w,_):=λw=>Pk (X i).wt (X i).ms (X i).pd ((X i).bs:Int) w
  obtain ⟨a0,a1,a2,a3⟩:=h.four hi
  unfold Y5
  generalize X i=t at *
  clear h e e2
  go_enter func174,ntmps174
  go_wp2_with fail
  refine (C.out _).mono ?_
  rintro e w' ⟨rfl,rfl⟩
  go_wp2_with fail
  refine (D.out _).mono ?_
  rintro e w2 ⟨rfl,b2⟩
  go_wp2
  go_ret
  exact ⟨rfl,b2⟩
def Kq (cs:List Value) (o j k:Nat) (v:Value) (h:o+j<cs.length):(cs.set (o+j) v)[o+k]?=if k=j then some v else cs[o+k]?:=by
 rw [AD6]
 by_cases e:k=j
 ·subst e
  rw [AHi rfl,AHi h,AHi rfl]
 ·rw [AHh (by omega),AHh e]
def eR (cs:List Value) (o j k:Nat) (v:Value) (hj:j<4) (h:k<o\/o+4<=k):(cs.set (o+j) v)[k]?=cs[k]?:=by
 rw [AD6,AHh (by omega)]
def oI (h:FO cs o t) (hl:o+3<cs.length) (u:Bool):FO (cs.set (o) (.bool u)) o { t with wt:=u }:=by
 obtain ⟨a0,a1,a2,a3⟩:=h
 have g:=λk=>Kq cs o 0 k (.bool u) (by omega)
 exact ⟨g 0,(g 1).trans a1,(g 2).trans a2,(g 3).trans a3⟩
def U4 (h:FO cs o t) (hl:o+3<cs.length) (u:Bool):FO (cs.set (o+1) (.bool u)) o { t with ms:=u }:=by
 obtain ⟨a0,a1,a2,a3⟩:=h
 have g:=λk=>Kq cs o 1 k (.bool u) (by omega)
 exact ⟨(g 0).trans a0,g 1,(g 2).trans a2,(g 3).trans a3⟩
def Of (h:FO cs o t) (hl:o+3<cs.length) (u:Bool):FO (cs.set (o+2) (.bool u)) o { t with pd:=u }:=by
 obtain ⟨a0,a1,a2,a3⟩:=h
 have g:=λk=>Kq cs o 2 k (.bool u) (by omega)
 exact ⟨(g 0).trans a0,(g 1).trans a1,g 2,(g 3).trans a3⟩
def U5 (h:FO cs o t) (hl:o+3<cs.length) (u:Nat):FO (cs.set (o+3) (.int .u64 (u:Int))) o { t with bs:=u }:=by
 obtain ⟨a0,a1,a2,a3⟩:=h
 have g:=λk=>Kq cs o 3 k (.int .u64 (u:Int)) (by omega)
 exact ⟨(g 0).trans a0,(g 1).trans a1,(g 2).trans a2,g 3⟩
def E3 (h:IT w s c X) (hi:i<16) (j:Nat) (hj:j<4) (v:Value) (t:Iq) (h4:∀ cs,FO cs (1+i*4) (X i)->1+i*4+3<cs.length->FO (cs.set (1+i*4+j) v) (1+i*4) t):IT (w.setCell ⟨s,1+i*4+j,none⟩ v) s c (sx X i t):=by
 obtain ⟨cs,hb,hc⟩:=h.bk
 refine ⟨⟨_,hb.set (1+i*4+j) v,?_⟩,h.c1,h.c2⟩
 exact hc.EL (AEU ..) (λk hk=>eR cs _ j k v hj hk) (h4 cs (hc.t i hi) (by rw [hc.len];omega))
def U6 (h:IT w s c X) (hi:i<16) (t:Iq):IT ((((w.setCell ⟨s,1+i*4,none⟩ (.bool t.wt)).setCell ⟨s,1+i*4+1,none⟩ (.bool t.ms)).setCell ⟨s,1+i*4+2,none⟩ (.bool t.pd)).setCell ⟨s,1+i*4+3,none⟩ (.int .u64 (t.bs:Int))) s c (sx X i t):=by
 have h0:=E3 h hi 0 (by omega) (.bool t.wt) _ λ_ h4 hl=>oI h4 hl t.wt
 have h1:=E3 h0 hi 1 (by omega) (.bool t.ms) _ λ_ h4 hl=>U4 h4 hl t.ms
 have h2:=E3 h1 hi 2 (by omega) (.bool t.pd) _ λ_ h4 hl=>Of h4 hl t.pd
 have h3:=E3 h2 hi 3 (by omega) (.int .u64 (t.bs:Int)) _ λ_ h4 hl=>U5 h4 hl t.bs
 simp only [Qc,Fo] at h3
 exact h3
def U7 (h:Fr B S a w) (hp:B<=g\/g∈S) (v0 v1 v2 v3:Value):Fr B S a ((((w.setCell ⟨g,o,none⟩ v0).setCell ⟨g,o+1,none⟩ v1).setCell ⟨g,o+2,none⟩ v2).setCell ⟨g,o+3,none⟩ v3):=
 (((h.setCell (p:=⟨g,o,none⟩) hp v0).setCell (p:=⟨g,o+1,none⟩) hp v1).setCell (p:=⟨g,o+2,none⟩) hp v2).setCell (p:=⟨g,o+3,none⟩) hp v3
def QR (n:Int) (m:Nat) (w:World) (hm:m<18446744073709551616) (h:IT w s c X):
 Calls prog 221 #[.pointer (some ⟨s,0,none⟩),.int .i64 n,.int .u64 (m:Int)] w λe w'=>e=.returned (.int .i64 (EA c X n m))/\IT w' s c (A7 (EA c X n m) X n (nw m))/\Fr w.heap.size [s] w w':=by
 have C2:Hid (∀ _:Unit,_):=λ_=>Pj m w hm h
 have HT:Hid (IT w s c X):=h
 cases e:is n with
 | false=>
  have C1:Hid (∀ w,_):=λw=>Kp (s:=s) n w (Do e)
  rw [show EA c X n m=3 by unfold EA;rw [e];rfl,BN (by decide)]
  clear h e hm
  go_enter func221,ntmps221
  go_wp2_with fail
  refine (C1.out _).mono ?_
  rintro e w' ⟨rfl,rfl⟩
  go_wp2
  go_ret
  exact ⟨rfl,HT.out,Fr.refl _ _ _⟩
 | true=>
  obtain ⟨i,hi,rfl,e2⟩:=DI e
  have hi2:(i:Int)<16:=by omega
  have C1:Hid (∀ w,_):=λw=>GU (s:=s) w hi2
  obtain ⟨a0,a1,a2,a3⟩:=h.four hi
  cases q:(X i).wt with
  | true=>
   rw [show EA c X (i:Int) m=6 by unfold EA;rw [e,e2,q];rfl,BN (by decide)]
   rw [q] at a0
   clear h e hm q e2 a1 a2 a3
   go_enter func221,ntmps221
   go_wp2_with fail
   refine (C1.out _).mono ?_
   rintro e w' ⟨rfl,rfl⟩
   go_wp2
   go_ret
   exact ⟨rfl,HT.out,Fr.refl _ _ _⟩
  | false=>
   rw [q] at a0
   cases e3:can c m with
   | false=>
    rw [e3] at C2
    rw [show EA c X (i:Int) m=2 by unfold EA;rw [e,e2,q,e3];rfl,BN (by decide)]
    clear h e hm q e2 e3 a1 a2 a3
    go_enter func221,ntmps221
    go_wp2_with fail
    refine (C1.out _).mono ?_
    rintro e w' ⟨rfl,rfl⟩
    go_wp2_with fail
    refine (C2.out ()).mono ?_
    rintro e w' ⟨rfl,rfl⟩
    go_wp2
    go_ret
    exact ⟨rfl,HT.out,Fr.refl _ _ _⟩
   | true=>
    rw [e3] at C2
    rw [show EA c X (i:Int) m=0 by unfold EA;rw [e,e2,q,e3];rfl,Ci,e2]
    have HI:Hid (i<16):=hi
    have f0:=h.free (1+i*4)
    have f1:=h.free (1+i*4+1)
    have f2:=h.free (1+i*4+2)
    have f3:=h.free (1+i*4+3)
    clear h e hm q e2 e3 hi
    go_enter func221,ntmps221
    go_wp2_with fail
    refine (C1.out _).mono ?_
    rintro e w' ⟨rfl,rfl⟩
    go_wp2_with fail
    refine (C2.out ()).mono ?_
    rintro e w' ⟨rfl,rfl⟩
    go_wp2
    go_ret
    exact ⟨rfl,U6 HT.out HI.out (nw m),U7 (Fr.refl _ _ _) (Or.inr (by simp)) _ _ _ _⟩
def WU (n:Int) (w:World) (h:IT w s c X):
 Calls prog 223 #[.pointer (some ⟨s,0,none⟩),.int .i64 n] w λe w'=>e=.returned (.int .i64 (Aa X n))/\IT w' s c (A7 (Aa X n) X n (zi))/\Fr w.heap.size [s] w w':=by
 have HT:Hid (IT w s c X):=h
 by_cases e:Aa X n=0
 ·obtain ⟨i,hi,rfl,e2,q⟩:=H6 e
  have hi2:(i:Int)<16:=by omega
  have C1:Hid (∀ _:Unit,_):=λ_=>GY w h hi2 q
  rw [e,Ci,e2]
  obtain ⟨a0,a1,a2,a3⟩:=h.four hi
  have f0:=h.free (1+i*4)
  have f1:=h.free (1+i*4+1)
  have f2:=h.free (1+i*4+2)
  have f3:=h.free (1+i*4+3)
  have HI:Hid (i<16):=hi
  clear h e e2 q hi
  go_enter func223,ntmps223
  go_wp2_with fail
  refine (C1.out ()).mono ?_
  rintro e w' ⟨rfl,rfl⟩
  go_wp2
  go_ret
  exact ⟨rfl,U6 HT.out HI.out zi,U7 (Fr.refl _ _ _) (Or.inr (by simp)) _ _ _ _⟩
 ·have C1:Hid (∀ _:Unit,_):=λ_=>H7 n w h e
  rw [BN e]
  have e3:(Aa X n==0)=false:=by simpa using e
  generalize Aa X n=E at *
  clear h
  go_enter func223,ntmps223
  go_wp2_with fail
  refine (C1.out ()).mono ?_
  rintro e w' ⟨rfl,rfl⟩
  go_wp2
  go_ret
  exact ⟨rfl,HT.out,Fr.refl _ _ _⟩
def Tr (n:Int) (w:World) (h:IT w s c X):
 Calls prog 171 #[.pointer (some ⟨s,0,none⟩),.int .i64 n] w λe w'=>e=.returned (.int .i64 (Aa X n))/\IT w' s c (A7 (Aa X n) X n ({ X n.toNat with pd:=true }))/\Fr w.heap.size [s] w w':=by
 have HT:Hid (IT w s c X):=h
 by_cases e:Aa X n=0
 ·obtain ⟨i,hi,rfl,e2,q⟩:=H6 e
  have hi2:(i:Int)<16:=by omega
  have C1:Hid (∀ _:Unit,_):=λ_=>GY w h hi2 q
  rw [e,Ci,e2]
  obtain ⟨a0,a1,a2,a3⟩:=h.four hi
  have f2:=h.free (1+i*4+2)
  have HI:Hid (i<16):=hi
  clear h e e2 q hi
  go_enter func171,ntmps171
  go_wp2_with fail
  refine (C1.out ()).mono ?_
  rintro e w' ⟨rfl,rfl⟩
  go_wp2
  go_ret
  exact ⟨rfl,E3 HT.out HI.out 2 (by omega) _ _ λ_ h4 hl=>Of h4 hl true,(Fr.refl _ _ _).setCell (Or.inr (by simp)) _⟩
 ·have C1:Hid (∀ _:Unit,_):=λ_=>H7 n w h e
  rw [BN e]
  have e3:(Aa X n==0)=false:=by simpa using e
  generalize Aa X n=E at *
  clear h
  go_enter func171,ntmps171
  go_wp2_with fail
  refine (C1.out ()).mono ?_
  rintro e w' ⟨rfl,rfl⟩
  go_wp2
  go_ret
  exact ⟨rfl,HT.out,Fr.refl _ _ _⟩
def Y8 (n:Int) (m:Nat) (w:World) (hm:m<18446744073709551616) (h:IT w s c X):
 Calls prog 225 #[.pointer (some ⟨s,0,none⟩),.int .i64 n,.int .u64 (m:Int)] w λe w'=>e=.returned (.int .i64 (B8 c X n m))/\IT w' s c (A7 (B8 c X n m) X n ({ X n.toNat with bs:=m }))/\Fr w.heap.size [s] w w':=by
 have C2:Hid (∀ _:Unit,_):=λ_=>Pj m w hm h
 have HT:Hid (IT w s c X):=h
 by_cases e:Aa X n=0
 ·obtain ⟨i,hi,rfl,e2,q⟩:=H6 e
  have hi2:(i:Int)<16:=by omega
  have C1:Hid (∀ _:Unit,_):=λ_=>GY w h hi2 q
  obtain ⟨a0,a1,a2,a3⟩:=h.four hi
  have f3:=h.free (1+i*4+3)
  have HI:Hid (i<16):=hi
  cases e3:can c m with
  | false=>
   rw [e3] at C2
   rw [show B8 c X (i:Int) m=2 by unfold B8;rw [AHi e,e3];rfl,BN (by decide)]
   clear h e e2 q hi e3 hm
   go_enter func225,ntmps225
   go_wp2_with fail
   refine (C1.out ()).mono ?_
   rintro e w' ⟨rfl,rfl⟩
   go_wp2_with fail
   refine (C2.out ()).mono ?_
   rintro e w' ⟨rfl,rfl⟩
   go_wp2
   go_ret
   exact ⟨rfl,HT.out,Fr.refl _ _ _⟩
  | true=>
   rw [e3] at C2
   rw [show B8 c X (i:Int) m=0 by unfold B8;rw [AHi e,e3];rfl,Ci,e2]
   clear h e e2 q hi e3 hm
   go_enter func225,ntmps225
   go_wp2_with fail
   refine (C1.out ()).mono ?_
   rintro e w' ⟨rfl,rfl⟩
   go_wp2_with fail
   refine (C2.out ()).mono ?_
   rintro e w' ⟨rfl,rfl⟩
   go_wp2
   go_ret
   exact ⟨rfl,E3 HT.out HI.out 3 (by omega) _ _ λ_ h4 hl=>U5 h4 hl m,(Fr.refl _ _ _).setCell (Or.inr (by simp)) _⟩
 ·rw [show B8 c X n m=Aa X n from AHh e,BN e]
  have C1:Hid (∀ _:Unit,_):=λ_=>H7 n w h e
  have e3:(Aa X n==0)=false:=by simpa using e
  generalize Aa X n=E at *
  clear h hm
  go_enter func225,ntmps225
  go_wp2_with fail
  refine (C1.out ()).mono ?_
  rintro e w' ⟨rfl,rfl⟩
  go_wp2
  go_ret
  exact ⟨rfl,HT.out,Fr.refl _ _ _⟩
def NA (n:Int) (b:Bool) (w:World) (h:IT w s c X):
 Calls prog 227 #[.pointer (some ⟨s,0,none⟩),.int .i64 n,.bool b] w λe w'=>e=.returned (.int .i64 (EC X n b))/\IT w' s c (A7 (EC X n b) X n ({ X n.toNat with ms:=b }))/\Fr w.heap.size [s] w w':=by
 have HT:Hid (IT w s c X):=h
 by_cases e:Aa X n=0
 ·obtain ⟨i,hi,rfl,e2,q⟩:=H6 e
  have hi2:(i:Int)<16:=by omega
  have C1:Hid (∀ _:Unit,_):=λ_=>GY w h hi2 q
  obtain ⟨a0,a1,a2,a3⟩:=h.four hi
  have f1:=h.free (1+i*4+1)
  have HI:Hid (i<16):=hi
  by_cases e3:(X i).ms=b
  ·rw [show EC X (i:Int) b=6 by unfold EC;rw [AHi e,e2,AHi e3],BN (by decide)]
   rw [e3] at a1
   have e4:(b==b)=true:=by simp
   clear h e e2 q hi e3
   go_enter func227,ntmps227
   go_wp2_with fail
   refine (C1.out ()).mono ?_
   rintro e w' ⟨rfl,rfl⟩
   go_wp2
   go_ret
   exact ⟨rfl,HT.out,Fr.refl _ _ _⟩
  ·rw [show EC X (i:Int) b=0 by unfold EC;rw [AHi e,e2,AHh e3],Ci,e2]
   have e4:((X i).ms==b)=false:=by simpa using e3
   clear h e e2 q hi e3
   go_enter func227,ntmps227
   go_wp2_with fail
   refine (C1.out ()).mono ?_
   rintro e w' ⟨rfl,rfl⟩
   go_wp2
   go_ret
   exact ⟨rfl,E3 HT.out HI.out 1 (by omega) _ _ λ_ h4 hl=>U4 h4 hl b,(Fr.refl _ _ _).setCell (Or.inr (by simp)) _⟩
 ·rw [show EC X n b=Aa X n from AHh e,BN e]
  have C1:Hid (∀ _:Unit,_):=λ_=>H7 n w h e
  have e3:(Aa X n==0)=false:=by simpa using e
  generalize Aa X n=E at *
  clear h
  go_enter func227,ntmps227
  go_wp2_with fail
  refine (C1.out ()).mono ?_
  rintro e w' ⟨rfl,rfl⟩
  go_wp2
  go_ret
  exact ⟨rfl,HT.out,Fr.refl _ _ _⟩
def WV (n:Int) (w:World) (h:IT w s c X):
 Calls prog 167 #[.pointer (some ⟨s,0,none⟩),.int .i64 n] w λe w'=>e=.returned (.int .i64 (EC X n true))/\IT w' s c (A7 (EC X n true) X n ({ X n.toNat with ms:=true }))/\Fr w.heap.size [s] w w':=by
 have C1:Hid (∀ _:Unit,_):=λ_=>NA n true w h
 generalize A7 (EC X n true) X n _=X2 at *
 generalize EC X n true=E at *
 clear h
 go_enter func167,ntmps167
 go_wp2_with fail
 refine (C1.out ()).mono ?_
 rintro e w' ⟨rfl,q2,f2⟩
 have Q2:Hid (IT w' s c X2):=q2
 have F2:Hid (Fr w.heap.size [s] w w'):=f2
 clear q2 f2
 go_wp2
 go_ret
 exact ⟨rfl,Q2.out,F2.out⟩
def Ro (n:Int) (w:World) (h:IT w s c X):
 Calls prog 169 #[.pointer (some ⟨s,0,none⟩),.int .i64 n] w λe w'=>e=.returned (.int .i64 (EC X n false))/\IT w' s c (A7 (EC X n false) X n ({ X n.toNat with ms:=false }))/\Fr w.heap.size [s] w w':=by
 have C1:Hid (∀ _:Unit,_):=λ_=>NA n false w h
 generalize A7 (EC X n false) X n _=X2 at *
 generalize EC X n false=E at *
 clear h
 go_enter func169,ntmps169
 go_wp2_with fail
 refine (C1.out ()).mono ?_
 rintro e w' ⟨rfl,q2,f2⟩
 have Q2:Hid (IT w' s c X2):=q2
 have F2:Hid (Fr w.heap.size [s] w w'):=f2
 clear q2 f2
 go_wp2
 go_ret
 exact ⟨rfl,Q2.out,F2.out⟩
def Ts (n:Int) (w:World) (h:IT w s c X):
 Calls prog 130 #[.pointer (some ⟨s,0,none⟩),.int .i64 n] w λe w'=>e=.returned (.int .i64 (Jn X n))/\IT w' s c (A7 (Jn X n) X n ({ X n.toNat with pd:=false }))/\Fr w.heap.size [s] w w':=by
 have HT:Hid (IT w s c X):=h
 by_cases e:Aa X n=0
 ·obtain ⟨i,hi,rfl,e2,q⟩:=H6 e
  have hi2:(i:Int)<16:=by omega
  have C1:Hid (∀ _:Unit,_):=λ_=>GY w h hi2 q
  have C2:Hid (∀ w,_):=λw=>Pk (X i).wt (X i).ms (X i).pd ((X i).bs:Int) w
  obtain ⟨a0,a1,a2,a3⟩:=h.four hi
  have KF:Hid (∀ w2,Below w.heap.size w w2->IT w2 s c X):=λw2 b2=>h.below b2
  have HI:Hid (i<16):=hi
  cases e3:Y5 (X i) with
  | false=>
   rw [show ((X i).wt&&(X i).pd&&!(X i).ms)=false from e3] at C2
   rw [show Jn X (i:Int)=12 by unfold Jn;rw [AHi e,e2,e3];rfl,BN (by decide)]
   clear h e e2 q hi e3
   generalize X i=t at *
   go_enter func130,ntmps130
   go_wp2_with fail
   refine (C1.out ()).mono ?_
   rintro e w' ⟨rfl,rfl⟩
   go_wp2_with fail
   refine (C2.out _).mono ?_
   rintro e w2 ⟨rfl,b2⟩
   go_wp2
   go_ret
   exact ⟨rfl,KF.out _ b2,(Fr.AE b2).mono (ADW _) (λ_ _ _=>by simp)⟩
  | true=>
   rw [show ((X i).wt&&(X i).pd&&!(X i).ms)=true from e3] at C2
   rw [show Jn X (i:Int)=0 by unfold Jn;rw [AHi e,e2,e3];rfl,Ci,e2]
   have XI:Hid (∀ w2,IT w2 s c X->w2.cell? ⟨s,1+i*4+2,none⟩=some (.bool (X i).pd)):=λw2 h2=>(h2.four hi).2.2.1
   have XF:Hid (∀ w2,IT w2 s c X->w2.frozen? ⟨s,1+i*4+2,none⟩=false):=λw2 h2=>h2.free _
   clear h e e2 q hi e3
   go_enter func130,ntmps130
   go_wp2_with fail
   refine (C1.out ()).mono ?_
   rintro e w' ⟨rfl,rfl⟩
   go_wp2_with fail
   refine (C2.out _).mono ?_
   rintro e w2 ⟨rfl,b2⟩
   have h2:=KF.out _ b2
   have x2:=XI.out _ h2
   have g2:=XF.out _ h2
   have H2:Hid (IT w2 s c X):=h2
   have B2:Hid (Fr w'.heap.size [s] w' w2):=(Fr.AE b2).mono (ADW _) (λ_ _ _=>by simp)
   clear h2 b2
   go_wp2
   go_ret
   exact ⟨rfl,E3 H2.out HI.out 2 (by omega) _ _ λ_ h4 hl=>Of h4 hl false,B2.out.setCell (Or.inr (by simp)) _⟩
 ·rw [show Jn X n=Aa X n from AHh e,BN e]
  have C1:Hid (∀ _:Unit,_):=λ_=>H7 n w h e
  have e3:(Aa X n==0)=false:=by simpa using e
  generalize Aa X n=E at *
  clear h
  go_enter func130,ntmps130
  go_wp2_with fail
  refine (C1.out ()).mono ?_
  rintro e w' ⟨rfl,rfl⟩
  go_wp2
  go_ret
  exact ⟨rfl,HT.out,Fr.refl _ _ _⟩
def wi (w:World):World:=w.alloc (.cells #[.bool false,.bool false,.bool false,.int .u64 0] 156)
def eT (w:World):Below w.heap.size w (wi w):=(Below.refl _ _).alloc (ADW _) _
def wI (w:World):AB (wi w) w.heap.size z4 156:=AB.new w _ _
def eU {t:TypeId} (h:AB w z z4 t) (v0 v1 v2 v3:Value):AB ((((w.setCell ⟨z,0,none⟩ v0).setCell ⟨z,1,none⟩ v1).setCell ⟨z,2,none⟩ v2).setCell ⟨z,3,none⟩ v3) z [v0,v1,v2,v3] t:=
 (((h.set 0 v0).set 1 v1).set 2 v2).set 3 v3
def wJ (h:Fr B S a w) (hp:B<=g\/g∈S) (v0 v1 v2 v3:Value):Fr B S a ((((w.setCell ⟨g,0,none⟩ v0).setCell ⟨g,1,none⟩ v1).setCell ⟨g,2,none⟩ v2).setCell ⟨g,3,none⟩ v3):=
 (((h.setCell (p:=⟨g,0,none⟩) hp v0).setCell (p:=⟨g,1,none⟩) hp v1).setCell (p:=⟨g,2,none⟩) hp v2).setCell (p:=⟨g,3,none⟩) hp v3
def Pn {e:Int} {tmps:Array Value} (h:AB w z [.bool t.wt,.bool t.ms,.bool t.pd,.int .u64 (t.bs:Int)] 156) (h4:tmps.getD 4 undef=.pointer (some ⟨z,0,none⟩)) (h5:tmps.getD 5 undef=.int .i64 e):
 (results Tryz.f278 tmps).run prog w=.ok (.tuple #[wH t,.int .i64 e]) w:=by
 have q0:w.cell? ⟨z,0,none⟩=some (.bool t.wt):=h.cell 0
 have q1:w.cell? ⟨z,1,none⟩=some (.bool t.ms):=h.cell 1
 have q2:w.cell? ⟨z,2,none⟩=some (.bool t.pd):=h.cell 2
 have q3:w.cell? ⟨z,3,none⟩=some (.int .u64 (t.bs:Int)):=h.cell 3
 rw [results_cell_tmp (p:=4) (u:=5) (ty:=156) rfl,h4,h5]
 simp [go_sem,q0,q1,q2,q3,wH]
def Y9 (n:Int) (w:World) (h:IT w s c X):
 Calls prog 278 #[.pointer (some ⟨s,0,none⟩),.int .i64 n] w λe w'=>e=.returned (.tuple #[wH (Cc X n),.int .i64 (FV n)])/\Below w.heap.size w w':=by
 obtain ⟨wa,hwa⟩:∃ wa,wi w=wa:=⟨_,rfl⟩
 have HWA:Hid (w.alloc (.cells #[.bool false,.bool false,.bool false,.int .u64 0] 156)=wa):=hwa
 have hb:=eT w
 have hk:=wI w
 rw [hwa] at hb hk
 have h1:=h.below hb
 have BL:Hid (Fr w.heap.size [] w wa):=Fr.AE hb
 obtain ⟨z,hz⟩:∃ z,w.heap.size=z:=⟨_,rfl⟩
 have HZ:Hid (w.heap.size=z):=hz
 rw [hz] at hk BL ⊢
 have KB:Hid (∀ v0 v1 v2 v3:Value,_):=eU hk
 have z0:wa.cell? ⟨z,0,none⟩=some (.bool false):=hk.cell 0
 have z1:wa.cell? ⟨z,1,none⟩=some (.bool false):=hk.cell 1
 have z2:wa.cell? ⟨z,2,none⟩=some (.bool false):=hk.cell 2
 have z3:wa.cell? ⟨z,3,none⟩=some (.int .u64 0):=hk.cell 3
 have f0:=hk.free 0
 have f1:=hk.free 1
 have f2:=hk.free 2
 have f3:=hk.free 3
 clear hwa hb hk h hz
 cases e:is n with
 | false=>
  have C1:Hid (∀ w,_):=λw=>Kp (s:=s) n w (Do e)
  rw [show Cc X n=zi by unfold Cc;rw [e];rfl,show FV n=3 by unfold FV;rw [e];rfl]
  clear h1 e
  go_enter func278,ntmps278
  go_wp2_with fail
  rw [HWA.out,HZ.out]
  refine (C1.out _).mono ?_
  rintro e w' ⟨rfl,rfl⟩
  go_wp2
  exact bodyPost_ret (Pn (t:=zi) (KB.out _ _ _ _) rfl rfl) rfl ⟨rfl,(wJ BL.out (Or.inl (ADW _)) _ _ _ _).below (by simp)⟩
 | true=>
  obtain ⟨i,hi,rfl,e2⟩:=DI e
  rw [show Cc X (i:Int)=X i by unfold Cc;rw [e,e2];rfl,show FV (i:Int)=0 by unfold FV;rw [e];rfl]
  have hi2:(i:Int)<16:=by omega
  have C1:Hid (∀ w,_):=λw=>GU (s:=s) w hi2
  obtain ⟨a0,a1,a2,a3⟩:=h1.four hi
  clear h1 e e2
  go_enter func278,ntmps278
  go_wp2_with fail
  rw [HWA.out,HZ.out]
  refine (C1.out _).mono ?_
  rintro e w' ⟨rfl,rfl⟩
  go_wp2
  exact bodyPost_ret (Pn (t:=X i) (KB.out _ _ _ _) rfl rfl) rfl ⟨rfl,(wJ BL.out (Or.inl (ADW _)) _ _ _ _).below (by simp)⟩
def q4 (t:Iq):List Value:=[.bool t.wt,.bool t.ms,.bool t.pd,.int .u64 (t.bs:Int)]
def Iy (X:Nat->Iq):List Value:=(List.range 16).flatMap λi=>q4 (X i)
def kO (f:Nat->List Value) (hf:∀ i,(f i).length=4):∀ n i j,i<n->j<4->((List.range n).flatMap f)[i*4+j]?=(f i)[j]?
 | 0,i,j,h,_=>by omega
 | n+1,i,j,h,hj=>by
  have hl:∀ n,((List.range n).flatMap f).length=n*4:=λn=>by
   induction n with
   | zero=>rfl
   | succ n ih=>rw [AEK,AES,ADa,ih];simp [hf];omega
  rw [AEK,AES]
  by_cases e:i<n
  ·rw [ADl (by rw [hl];omega)]
   exact kO f hf n i j e hj
  ·obtain rfl:i=n:=by omega
   rw [ADj (by rw [hl];omega),hl,show i*4+j-i*4=j by omega]
   simp
def Y' (f:Nat->List Value) (hf:∀ i,(f i).length=4) (n:Nat):((List.range n).flatMap f).length=n*4:=by
 induction n with
 | zero=>rfl
 | succ n ih=>rw [AEK,AES,ADa,ih];simp [hf];omega
def IT.range {w:World} {s c:Nat} {X:Nat->Iq} (h:IT w s c X):w.rangeAt s 1 (Iy X):=by
 intro j v hv
 have hj:j<64:=by
  have:=(ADc.1 hv).1
  unfold Iy at this
  rw [Y' _ (λ_=>rfl)] at this
  exact this
 obtain ⟨a0,a1,a2,a3⟩:=h.four (i:=j / 4) (by omega)
 have e:j=j / 4*4+j % 4:=by omega
 have hl:=kO (λi=>q4 (X i)) (λ_=>rfl) 16 (j / 4) (j % 4) (by omega) (by omega)
 rw [<- e] at hl
 rw [show Iy X=(List.range 16).flatMap λi=>q4 (X i) from rfl,hl] at hv
 rw [<- hv]
 generalize hr:j % 4=r at *
 generalize j / 4=i at *
 obtain rfl | rfl | rfl | rfl:r=0\/r=1\/r=2\/r=3:=by omega
 ·rw [show 1+j=1+i*4 by omega];exact a0
 ·rw [show 1+j=1+i*4+1 by omega];exact a1
 ·rw [show 1+j=1+i*4+2 by omega];exact a2
 ·rw [show 1+j=1+i*4+3 by omega];exact a3
def eV (X:Nat->Iq) (k:Nat) (h:k<16) (w:World):(Instr.index 157 (.agg (Iy X).toArray) (.int .i64 (k:Int))).run prog w=.ok (.agg #[.bool (X k).wt,.bool (X k).ms,.bool (X k).pd,.int .u64 ((X k).bs:Int)]) w:=by
 obtain rfl | rfl | rfl | rfl | rfl | rfl | rfl | rfl | rfl | rfl | rfl | rfl | rfl | rfl | rfl | rfl:k=0\/k=1\/k=2\/k=3\/k=4\/k=5\/k=6\/k=7\/k=8\/k=9\/k=10\/k=11\/k=12\/k=13\/k=14\/k=15:=by omega
 all_goals rfl
def Po {wr:World} {v:Value} {p:Nat->Bool} {k:Nat} (g:CJ w wr v p k) (o:Obj):CJ w (wr.alloc o) v p k:=⟨g.own.alloc _,g.bel.alloc g.bel.size _⟩
def WX (w:World) (h:IT w s c X):
 Calls prog 301 #[.pointer (some ⟨s,0,none⟩)] w λe w'=>∃ v,e=.returned v/\CJ w w' v (λi=>(X i).wt) 16:=by
 obtain ⟨i0,hi,hz0,hz1,hz2⟩:=info_parts Tryz.Dw
 have HR:Hid (w.rangeAt s 1 (Iy X)):=h.range
 have HN:Hid ((prog.info? 157).map (·.size)=some (Iy X).length):=by rw [show (Iy X).length=64 by unfold Iy;rw [Y' _ (λ_=>rfl)]];unfold Hid;kernel_rfl
 have HI:Hid (∀ k:Nat,(k:Int)<16->∀ w1:World,_):=λk hk w1=>eV X k (by omega) w1
 generalize Iy X=Q at *
 clear h
 go_enter func301,ntmps301
 go_wp2_with (guard_target =~ wpList _ _ _ (Oper.mk (some 11) _ _ _ _ _::_) _ _;refine wpList_load_mid rfl 157 (.tmp 10) rfl s 1 rfl Q _ HR.out underlying157 rfl HN.out ?_)
 go_loopw [3,12] (λv i wr=>∃ k:Nat,(k:Int)<=16/\CJ w wr v (λi=>(X i).wt) k/\i=.int .i64 (k:Int)) (λ_ i _=>16-(intOf i).toNat)
 case atStart=>exact ⟨0,by omega,O9 w _,rfl⟩
 case round=>
  obtain ⟨k,hk,g,rfl⟩:=hrel
  by_cases e:(k:Int)<16
  ·have hx:=HI.out k e wr
   cases q:(X k).wt with
   | true=>
    rw [q] at hx
    have G1:=Po g (.cells #[.bool true,.bool (X k).ms,.bool (X k).pd,.int .u64 ((X k).bs:Int)] 156)
    have hsz:=g.bel.size
    have hgl:=Gj (λi=>(X i).wt) k
    have HQ:Hid ((λi=>(X i).wt) k=true):=q
    clear g q
    generalize (X k).ms=b1 at *
    generalize (X k).pd=b2 at *
    generalize (X k).bs=b3 at *
    go_wp2_with (at_builtin;refine wpList_append_own _ rfl _ _ 122 rfl w.heap.size 3 i0 (.int .i64 0) 1 8 underlying122 hi hz0 hz1 hz2 rfl (by decide) _ _ _ rfl (G1.own.alloc _) ⟨_,0,none⟩ 1 1 [.int .i64 (k:Int)] rfl rfl ?c1 ?c2 ?c3 ?c4 ?c5 ?_)
    case c2=>first | rfl | (intro u hu;simp at hu;subst hu;rfl)
    case c3=>unfold maxLen;omega
    case c4=>omega
    case c5=>omega
    intro v' w2 hown' hgrow _
    have G3:=Lk G1 HQ.out hown' hgrow
    clear hown' hgrow
    go_wp2
    go_roundw
    case rel=>exact ⟨k+1,by omega,G3,by go_num⟩
    case measure=>simp [intOf];omega
   | false=>
    rw [q] at hx
    have G2:=Po (Ii g q) (.cells #[.bool false,.bool (X k).ms,.bool (X k).pd,.int .u64 ((X k).bs:Int)] 156)
    clear g q
    go_wp2
    go_roundw
    case rel=>exact ⟨k+1,by omega,G2,by go_num⟩
    case measure=>simp [intOf];omega
  ·obtain rfl:k=16:=by omega
   have G:Hid (CJ w wr _ (λi=>(X i).wt) 16):=g
   obtain ⟨a,cap,rfl⟩:=An g.own
   clear g
   go_wp2
   go_ret
   exact ⟨_,rfl,G.out⟩
end Go.Proofs.YtdlhlfpigcgapaaGreatDoor.Irq

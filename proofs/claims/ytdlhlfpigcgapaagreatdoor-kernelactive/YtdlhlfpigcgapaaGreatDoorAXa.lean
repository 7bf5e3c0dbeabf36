import Derived.Test.YtdlhlfpigcgapaaGreatDoorAZal
import Derived.Test.YtdlhlfpigcgapaaGreatDoorRows
import Derived.WalkKit
import Derived.ProofKit
import Derived.OpenShut
import Derived.OneCell
import Derived.BigQuiet
import Derived.Laws.CopyOwn
import Derived.Deep.OwnRows
import Derived.ArgAppend
import Derived.Laws.OwnMore
import Derived.Deep.Slices
set_option maxRecDepth 100000
set_option maxHeartbeats 16000000
set_option linter.unusedVariables false
set_option linter.unusedSimpArgs false
set_option linter.defProp false
namespace Go.Proofs.YtdlhlfpigcgapaaGreatDoor
open Go.Proofs.Tryz
open Go.ChangeShapes Go.WideShapes Go.ChangeAt Go.RowKit
variable {w w' w1 w2 wr:World} {t u:TypeId} {S:List Nat} {cs:List Value} {xs:List Int} {v:Value} {B B' b base cap g k n size:Nat} {Q:Exit->Act->World->Prop} {a:Option Addr} {P:Program} {ops:Array Oper} {o:Oper}
structure Fr (B:Nat) (S:List Nat) (w w':World):Prop where
 os:w'.os=w.os
 tape:w'.tape=w.tape
 output:w'.output=w.output
 size:w.heap.size<=w'.heap.size
 block:∀ k,k<B->k∉S->w'.heap[k]?=w.heap[k]?
def Fr.refl (B:Nat) (S:List Nat) (w:World):Fr B S w w:=⟨rfl,rfl,rfl,ADW _,λ_ _ _=>rfl⟩
def Fr.trans {B:Nat} {S:List Nat} {a b c:World} (h:Fr B S a b) (k:Fr B S b c):Fr B S a c:=
 ⟨k.os.trans h.os,k.tape.trans h.tape,k.output.trans h.output,ADd h.size k.size,λi hi hs=>(k.block i hi hs).trans (h.block i hi hs)⟩
def Fr.mono {S':List Nat} (h:Fr B S w w') (hB:B'<=B) (hS:∀ k,k<B'->k∉S'->k∉S):Fr B' S' w w':=
 ⟨h.os,h.tape,h.output,h.size,λk hk hs=>h.block k (AD7 hk hB) (hS k hk hs)⟩
def Fr.less (h:Fr B S w w') (hB:B'<=B):Fr B' S w w':=h.mono hB λ_ _ h=>h
def Fr.drew {a:World} (h:Fr B S a w):Fr B S a w.drew:=⟨h.os,h.tape,h.output,h.size,h.block⟩
def Fr.drewN {a:World} (h:Fr B S a w) (n:Nat):Fr B S a (w.drewN n):=⟨h.os,h.tape,h.output,h.size,h.block⟩
def Fr.alloc {a:World} (h:Fr B S a w) (hB:B<=w.heap.size) (o:Obj):Fr B S a (w.alloc o):=
 h.trans ⟨rfl,rfl,rfl,by simp,λk hk _=>Below.heap_alloc _ _ _ (by omega)⟩
def Fr.setCell {B:Nat} {S:List Nat} {a w:World} (h:Fr B S a w) {p:Addr} (hp:B<=p.block\/p.block∈S) (u:Value):Fr B S a (w.setCell p u):=
 h.trans ⟨rfl,rfl,rfl,by simp [World.setCell],λk hk hs=>Below.heap_setCell _ _ _ _ (by rcases hp with h | h;omega;intro e;exact hs (e ▸ h))⟩
def Fr.grown {a:World} {row:Option Nat} (h:Fr B S a w) (hg:w.grownBy w' row) (hB:B<=w.heap.size) (hr:∀ k,row=some k->B<=k\/k∈S):Fr B S a w':=
 h.trans ⟨hg.os,hg.tape,hg.output,hg.size,λk hk hs=>hg.block k (by omega) (λe=>by rcases hr k e.symm with h | h;omega;exact hs h)⟩
def Fr.AE (h:Below B w w'):Fr B [] w w':=⟨h.os,h.tape,h.output,h.size,λk hk _=>h.block k hk⟩
def Fr.below (h:Fr B S w w') (hS:∀ k∈S,B<=k):Below B w w':=⟨h.os,h.tape,h.output,h.size,λk hk=>h.block k hk (λe=>by have:=hS k e;omega)⟩
def Fr.cell {B:Nat} {S:List Nat} {w w':World} (h:Fr B S w w') {p:Addr} (hp:p.block<B) (hs:p.block∉S):w'.cell? p=w.cell? p:=World.cell?_of_block (w:=w) (h.block p.block hp hs)
def AB (w:World) (b:Nat) (cs:List Value) (t:TypeId):Prop:=w.heap[b]?=some (.cells cs.toArray t (0,0))
def AB.lt (h:AB w b cs t):b<w.heap.size:=lt_of_block h
def AB.cell {w:World} {b:Nat} {cs:List Value} {t:TypeId} (h:AB w b cs t) (i:Nat):w.cell? ⟨b,i,none⟩=cs[i]?:=by simp [World.cell?,show w.heap[b]?=_ from h]
def AB.free (h:AB w b cs t) (i:Nat):w.frozen? ⟨b,i,none⟩=false:=by
 simp [World.frozen?,show w.heap[b]?=_ from h]
def AB.AA (h:AB w b cs t) (f:Fr B S w w') (hb:b<B) (hs:b∉S):AB w' b cs t:=(f.block b hb hs).trans h
def AB.heap (h:AB w b cs t) (e:w1.heap=w.heap):AB w1 b cs t:=by unfold AB;rw [e];exact h
def AB.alloc (h:AB w b cs t) (o:Obj):AB (w.alloc o) b cs t:=(Below.heap_alloc _ _ _ h.lt).trans h
def AB.new (w:World) (cs:List Value) (t:TypeId):AB (w.alloc (.cells cs.toArray t)) w.heap.size cs t:=heap_alloc_new w _
def AB.other (h:AB w b cs t) {p:Addr} (hp:b≠p.block) (u:Value):AB (w.setCell p u) b cs t:=(Below.heap_setCell _ _ _ _ hp).trans h
def AB.set (h:AB w b cs t) (i:Nat) (u:Value):AB (w.setCell ⟨b,i,none⟩ u) b (cs.set i u) t:=by
 have hlt:=h.lt
 have h':w.heap[b]=.cells cs.toArray t (0,0):=by simpa [Array.getElem?_eq_getElem hlt] using (show w.heap[b]?=_ from h)
 show (w.heap.modify b _)[b]?=_
 rw [Array.getElem?_eq_getElem (by simpa using hlt),Array.getElem_modify_self,h']
 simp
def AB.ne {ds:List Value} (h:AB w b cs t) (k:AB w g ds u) (n:t≠u):b≠g:=by
 intro e
 subst e
 have:=(show w.heap[b]?=_ from h).symm.trans k
 simp at this
 exact n this.2
def Row (w:World) (v:Value) (xs:List Int):Prop:=
 (xs=[]/\∃ a cap,v=.slice a 0 cap)\/∃ b off cap,v=.slice (some ⟨b,off,none⟩) xs.length cap/\b<w.heap.size/\∀ i,i<xs.length->w.cell? ⟨b,off+i,none⟩=some (.int .i64 (xs.getD i 0))
def Row.AA (h:Row w v xs) (f:Fr B [] w w') (hB:w.heap.size<=B):Row w' v xs:=by
 rcases h with h | ⟨b,off,cap,hv,hb,hc⟩
 ·exact Or.inl h
 ·refine Or.inr ⟨b,off,cap,hv,AD7 hb f.size,λi hi=>?_⟩
  rw [f.cell (show (⟨b,off+i,none⟩:Addr).block<B by show b<B;omega) (by simp)]
  exact hc i hi
def Tc (h:w.ownsRow base t 1 v xs.length (xs.map (Value.int .i64))):Row w v xs:=by
 rcases h.2 with ⟨hv,hn⟩ | ⟨b,cap,cur,hv,hb,hh,hn,hc,hz,ht⟩
 ·exact Or.inl ⟨ADh hn,none,0,hv⟩
 ·subst hv
  refine Or.inr ⟨b,0,cap,rfl,lt_of_block hh,λi hi=>?_⟩
  rw [ADs,h.cellAt i (by omega),ADn,ADZ hi,ADY,ADZ hi]
  rfl
def If (h:AB w b (xs.map (Value.int .i64)) t) (cap:Nat):Row w (.slice (some ⟨b,0,none⟩) xs.length cap) xs:=by
 refine Or.inr ⟨b,0,cap,rfl,h.lt,λi hi=>?_⟩
 rw [ADs,h.cell i,ADn,ADZ hi,ADY,ADZ hi]
 rfl
def Hb (h:AB w b (xs.map (Value.int .i64)) t) (off n cap:Nat) (hn:off+n<=xs.length):Row w (.slice (some ⟨b,off,none⟩) n cap) ((xs.drop off).take n):=by
 have hl:((xs.drop off).take n).length=n:=by simp;omega
 refine Or.inr ⟨b,off,cap,by rw [hl],h.lt,λi hi=>?_⟩
 rw [hl] at hi
 rw [h.cell (off+i),ADn,ADZ (by omega:off+i<xs.length),ADY,ADm,AHi hi,AE0,ADZ (by omega:off+i<xs.length)]
 rfl
def Ae (xs:List Int) (i:Nat) (h:i<xs.length):(xs.map (Value.int .i64))[i]?=some (.int .i64 (xs.getD i 0)):=by
 rw [ADn,ADZ h,ADY,ADZ h]
 rfl
def Row.shape (h:Row w v xs):∃ a cap,v=.slice a xs.length cap:=by
 rcases h with ⟨rfl,a,cap,rfl⟩ | ⟨b,off,cap,rfl,_⟩
 ·exact ⟨a,cap,rfl⟩
 ·exact ⟨_,cap,rfl⟩
structure Gt (w wr:World) (v:Value) (G:List Int):Prop where
 own:wr.ownsRow w.heap.size 3 1 v G.length (G.map (Value.int .i64))
 bel:Below w.heap.size w wr
def Qs (w:World):Gt w w (.slice none 0 0) []:=⟨World.ownsRow_nil _ _ _ _,Below.refl _ _⟩
def Xr {v':Value} {G:List Int} {x:Int} {o:Obj} (g:Gt w wr v G)
 (hown':w1.ownsRow w.heap.size 3 1 v' (G.length+1) (G.map (Value.int .i64)++[.int .i64 x])) (hgrow:(wr.alloc o).grownBy w1 v.ownBlock):Gt w w1 v' (G++[x]):=by
 have hs:=g.bel.size
 refine ⟨?_,(g.bel.alloc hs o).grown hgrow (by simp;omega) (λj hj=>(g.own.lt j hj).1)⟩
 simpa using hown'
def An {xs:List Value} (h:w.ownsRow base t 1 v n xs):∃ a cap,v=.slice a n cap:=by
 rcases h.2 with ⟨rfl,rfl⟩ | ⟨g,cap,cur,rfl,_⟩
 ·exact ⟨none,0,rfl⟩
 ·exact ⟨_,cap,rfl⟩
def Eo (xs:List Int) (k:Nat) (h:k<xs.length):xs.take (k+1)=xs.take k++[xs.getD k 0]:=by
 rw [AE3 h]
 simp [List.getD,h]
def OM (w:World) (xs:List Int) (t:TypeId) (n cap:Nat) (hn:n=xs.length):Row (w.alloc (.cells (xs.map (Value.int .i64)).toArray t)) (.slice (some ⟨w.heap.size,0,none⟩) n cap) xs:=by
 subst hn
 exact If (AB.new w _ t) cap
def tW {w0:World} (h:Below B w0 w) (f:Fr w.heap.size S w w') (hB:B<=w.heap.size) (hS:∀ k∈S,B<=k):Below B w0 w':=h.trans ((f.less hB).below hS)
def cT {len:Nat} (h:Row w (.slice a len cap) xs) (hl:xs.length=len) (hb:Below w.heap.size w wr) (hk:(k:Int)<len):
 ∃ b off,a=some ⟨b,off,none⟩/\wr.cell? ⟨b,off+k,none⟩=some (.int .i64 (xs.getD k 0)):=by
 rcases h with ⟨rfl,_⟩ | ⟨b,off,c,hv,hlt,hc⟩
 ·simp at hl
  omega
 ·simp only [Value.slice.injEq] at hv
  exact ⟨b,off,hv.1,(hb.cell (p:=⟨b,off+k,none⟩) hlt).trans (hc k (by omega))⟩
def Qt (h:w.ownsRow base 3 1 (.slice a n cap) n (xs.map (Value.int .i64))) (hk:(k:Int)<n):
 ∃ b,a=some ⟨b,0,none⟩/\w.cell? ⟨b,k,none⟩=some (.int .i64 (xs.getD k 0)):=by
 have hl:xs.length=n:=by have:=h.1;simpa using this
 subst hl
 rcases Tc h with ⟨rfl,_⟩ | ⟨b,off,c,hv,hlt,hc⟩
 ·simp at hk
  omega
 ·rcases h.2 with ⟨_,e⟩ | ⟨g,c2,cur,e,_⟩
  ·omega
  ·simp only [Value.slice.injEq] at hv e
   have e2:=hv.1.symm.trans e.1
   simp only [AEB,Addr.mk.injEq] at e2
   obtain ⟨rfl,rfl,_⟩:=e2
   have:=hc k (by omega)
   rw [ADs] at this
   exact ⟨b,hv.1,this⟩
def Sm (w1 w:World):Prop:=w1.heap=w.heap/\w1.os=w.os/\w1.tape=w.tape/\w1.output=w.output
def Sm.below (h:Sm w2 w1) (b:Below B w w1):Below B w w2:=by
 obtain ⟨e1,e2,e3,e4⟩:=h
 exact ⟨e2.trans b.os,e3.trans b.tape,e4.trans b.output,by rw [e1];exact b.size,λk hk=>by rw [e1];exact b.block k hk⟩
def Sm.from (h:Sm w1 w) (b:Below B w1 w2):Below B w w2:=by
 obtain ⟨e1,e2,e3,e4⟩:=h
 exact ⟨b.os.trans e2,b.tape.trans e3,b.output.trans e4,by rw [<- e1];exact b.size,λk hk=>by rw [<- e1];exact b.block k hk⟩
def Sm.fr (h:Sm w1 w) (b:Fr B S w1 w2):Fr B S w w2:=by
 obtain ⟨e1,e2,e3,e4⟩:=h
 exact ⟨b.os.trans e2,b.tape.trans e3,b.output.trans e4,by rw [<- e1];exact b.size,λk hk hs=>by rw [<- e1];exact b.block k hk hs⟩
def Fr.st {a:World} (h:Fr B S a w) (g i:Nat) (u:Value) (hg:g∈S):Fr B S a (w.setCell ⟨g,i,none⟩ u):=h.setCell (p:=⟨g,i,none⟩) (Or.inr hg) u
def Tryz.Dw:(prog.info? 3).map (λi=>(i.zero,i.size,i.bytes))=some (some (.int .i64 0),1,8):=by kernel_rfl
def ES (n:Nat):madeCells #[Value.int .i64 0] n=((List.replicate n (0:Int)).map (Value.int .i64)).toArray:=by
 apply AFU
 ·simp [size_madeCells]
 ·intro i h1 h2
  simp [madeCells,AF5]
def UL {sp:Option Addr} {c:Nat} (h:Row w (.slice sp xs.length c) xs) (hp:0<xs.length):
 ∃ ad,sp=some ad/\∀ j v,(xs.map (Value.int .i64))[j]?=some v->w.cell? (ad.add j)=some v:=by
 rcases h with ⟨rfl,_⟩ | ⟨b,off,cap,hv,hb,hc⟩
 ·simp at hp
 ·simp only [Value.slice.injEq] at hv
  refine ⟨_,hv.1,λj v hj=>?_⟩
  have hj2:j<xs.length:=by
   have:=(ADc.1 hj).1
   simpa using this
  rw [Ae xs j hj2] at hj
  have e:(⟨b,off,none⟩:Addr).add j=⟨b,off+j,none⟩:=by unfold Addr.add;split <;> simp_all
  rw [e,hc j hj2]
  exact hj
def Vw {α:Type} (Z X Y:List α) (h:Z.length=X.length+Y.length):splice (splice Z 0 X) X.length Y=X++Y:=by
 unfold splice
 have e:List.take 0 Z++(X++List.drop (0+X.length) Z)=X++Z.drop X.length:=by simp
 rw [e,List.take_left,List.drop_append]
 have a:X.drop (X.length+Y.length)=[]:=AHs (by omega)
 have b:(Z.drop X.length).drop (X.length+Y.length-X.length)=[]:=by
  rw [List.drop_drop]
  exact AHs (by omega)
 rw [a,b]
 simp
def Hh:(prog.info? 3).map (·.size)=some 1:=by kernel_rfl
def Ig (xs:List Int):∀ v∈xs.map (Value.int .i64),v.oneCell'=true:=by
 intro v hv
 obtain ⟨x,_,rfl⟩:=AE6.1 hv
 rfl
def Qu {a:Act} {K:Act->World->Prop} {E:Prop} (hgd:o.guard=none) (d s:Operand) (dT sT:TypeId)
 (ho:o.op=.call { callee:=.builtin .copy,args:=#[d,s],argTypes:=#[dT,sT] }) (elem:TypeId) (hu:P.underlying dT=some (.slice elem)) (hsz:(P.info? elem).map (·.size)=some 1)
 (dp sp:Option Addr) (dLen dCap sLen sCap:Nat) (hd:a.eval d=.slice dp dLen dCap) (hs:a.eval s=.slice sp sLen sCap)
 (g off:Nat) (cur:List Value) (t:TypeId) (hg:AB w g cur t) (cs:List Value) (hn:cs.length=Nat.min sLen dLen)
 (hpos:0<cs.length->dp=some ⟨g,off,none⟩/\∃ ad,sp=some ad/\∀ j v,cs[j]?=some v->w.cell? (ad.add j)=some v)
 (hfit:off+cs.length<=cur.length) (h1:∀ v∈cs,v.oneCell'=true)
 (h:∀ w',Hid (AB w' g (splice cur off cs) t)->Hid (Fr w.heap.size [g] w w')->K (a.put o.dst (goInt cs.length)) w'):
 if Region.wanted o (yielded ops a.tmps)=true then Oper.wp P o a w K Q else E:=by
 have hw:Region.wanted o (yielded ops a.tmps)=true:=by simp [Region.wanted,hgd]
 rw [AHi hw]
 by_cases h0:cs.length=0
 ·obtain rfl:cs=[]:=ADh h0
  have hrun:=run_copy_none (P:=P) w dT sT o.type elem dp sp dLen dCap sLen sCap hu hsz (by simpa using hn.symm)
  unfold Oper.wp
  simp [execOp,ho,resolve,invoke,builtin,hd,hs,hrun,Result.andThen]
  exact h w (show AB _ _ _ _ by simpa [splice] using hg) (Fr.refl _ _ _)
 ·obtain ⟨rfl,ad,rfl,hsrc⟩:=hpos (by omega)
  have hrun:=run_copy_row (P:=P) w dT sT o.type elem g off dLen dCap ad sLen sCap cur.toArray t cs hu hsz hg hn hsrc (by simpa using hfit) h1
  unfold Oper.wp
  simp [execOp,ho,resolve,invoke,builtin,hd,hs,hrun,Result.andThen]
  refine h _ (show _=_ by simpa [splice] using setRow_heap w g _ _ t _ hg) ⟨rfl,rfl,rfl,by simp [World.setRow],λk hk hs=>setRow_other w g k _ (by simpa using hs)⟩
def Li (w:World) (t ty e:TypeId) (i0:TypeInfo) (z:Value) (size bytes:Nat) (ht:P.underlying t=some (.slice e)) (hi:P.info? e=some i0) (hz0:i0.zero=some z) (hz1:i0.size=size) (hz2:i0.bytes=bytes) (hzs:z.cells.size=size) (hsz:0<size) (hb:bytes<=1000)
 {xs:List Value} (hown:w.ownsRow 0 e size v n xs) (ad:Addr) (m c:Nat) (news:List Value) (hl:news.length=m*size) (hn:∀ j u,news[j]?=some u->w.cell? (ad.add j)=some u) (h1:∀ u∈news,u.oneCell'=true) (hs:n+m<=3000):
 ∃ v' w',(Builtin.append_ #[t,t] ty #[v,.slice (some ad) m c]).run P w=.ok v' w'/\w'.ownsRow 0 e size v' (n+m) (xs++news)/\w.grownBy w' v.ownBlock/\∀ g,v'.ownBlock=some g->v.ownBlock=some g\/w.heap.size<=g:=by
 have hby:(n+m)*bytes<=140737488355328:=ADd (AFz hs hb) (by omega)
 rcases hown.2 with ⟨rfl,rfl⟩ | ⟨g,cap,cur,rfl,_,hg,hnc,hcm,hcs,htake⟩
 ·obtain rfl:xs=[]:=ADh (by have:=hown.1;omega)
  obtain ⟨v',w',hrun,r1,r2,_⟩:=run_append_own (P:=P) w w.heap.size t ty e i0 z size bytes ht hi hz0 hz1 hz2 hzs hsz (.slice none 0 0) 0 [] (World.ownsRow_nil w _ _ size) ad m c news hl hn h1 (by unfold maxLen;omega) hby (ADW _)
  refine ⟨v',w',hrun,⟨r1.1,?_⟩,r2,λg hgo=>?_⟩
  ·rcases r1.2 with h | ⟨g,cap,cur,hv,_,rest⟩
   ·exact Or.inl h
   ·exact Or.inr ⟨g,cap,cur,hv,AFQ _,rest⟩
  ·rcases r1.2 with ⟨rfl,_⟩ | ⟨g',cap,cur,rfl,hb,_⟩
   ·cases hgo
   ·simp [Value.ownBlock] at hgo
    exact Or.inr (by omega)
 ·by_cases room:n+m<=cap
  ·obtain ⟨w',hrun,r1,r2⟩:=run_append_fits (P:=P) w 0 t ty e i0 size ht hi hz1 g n cap xs hown ad m c news hl hn h1 room
   exact ⟨_,w',hrun,r1,r2,λg' h=>Or.inl h⟩
  ·obtain ⟨v',w',hrun,r1,r2⟩:=run_append_arg_grows (P:=P) w t ty e i0 z size bytes ht hi hz0 hz1 hz2 hzs hsz ⟨g,0,none⟩ n cap xs hown.1 (λj u hj=>by
    have hj2:=(ADc.1 hj).1
    rw [Addr.add_lit,ADs,hown.cellAt j (by rw [<- hown.1];exact hj2)]
    exact hj) ad m c news hl hn (by omega) (by unfold maxLen;omega) hby
   refine ⟨v',w',hrun,⟨r1.1,?_⟩,⟨r2.os,r2.tape,r2.output,r2.size,λk hk _=>r2.block k hk (by simp)⟩,λg' hgo=>?_⟩
   ·rcases r1.2 with h | ⟨g,cap,cur,hv,_,rest⟩
    ·exact Or.inl h
    ·exact Or.inr ⟨g,cap,cur,hv,AFQ _,rest⟩
   ·rcases r1.2 with ⟨rfl,_⟩ | ⟨g',cap,cur,rfl,hb,_⟩
    ·cases hgo
    ·simp [Value.ownBlock] at hgo
     exact Or.inr (by omega)
def MI {xs:List Value} (h:w.ownsRow base t size v n xs):∃ a cap,v=.slice a n cap:=by
 rcases h.2 with ⟨rfl,rfl⟩ | ⟨g,cap,cur,rfl,_⟩
 ·exact ⟨none,0,rfl⟩
 ·exact ⟨_,cap,rfl⟩
def Ep {xs:List Value} (h:w.ownsRow base t size v n xs) (f:Fr B S w w') (hg:∀ g,v.ownBlock=some g->g<B/\g∉S):w'.ownsRow base t size v n xs:=by
 refine ⟨h.1,?_⟩
 rcases h.2 with hn | ⟨g,cap,cur,rfl,h0,hh,rest⟩
 ·exact Or.inl hn
 ·obtain ⟨g1,g2⟩:=hg g rfl
  exact Or.inr ⟨g,cap,cur,rfl,h0,(f.block g g1 g2).trans hh,rest⟩
def Hi {xs:List Value} (h:w.ownsRow base t size v n xs) (e:v.ownBlock=some g):g<w.heap.size:=by
 rcases h.2 with ⟨rfl,_⟩ | ⟨g',cap,cur,rfl,_,hg,_⟩
 ·cases e
 ·simp [Value.ownBlock] at e
  subst e
  exact lt_of_block hg
def UM {xs:List Value} (h:w.ownsRow base t size v n xs) (k:AB w b cs u) (ne:t≠u) (e:v.ownBlock=some g):b≠g:=by
 rcases h.2 with ⟨rfl,_⟩ | ⟨g',cap,cur,rfl,_,hg,_⟩
 ·cases e
 ·simp [Value.ownBlock] at e
  subst e
  intro q
  subst q
  have:=(show w.heap[b]?=_ from k).symm.trans hg
  simp at this
  exact ne this.2.symm
open Go.Deep
variable {v:Value} {P:Program} {w w' w1 wr:World} {k:Nat}
structure Hj (α:Type) where
 n:Nat
 f:α->List Value
 z:α
 len:∀ x,(f x).length=n
 one:∀ x,∀ u∈f x,u.oneCell'=true
 pos:0<n
section
variable {α:Type} {L:Hj α}
def Hj.all (L:Hj α) (Y:List α):List Value:=Y.flatMap L.f
def Dc (x:α) (Y:List α):L.all (x::Y)=L.f x++L.all Y:=rfl
def UN (X Y:List α):L.all (X++Y)=L.all X++L.all Y:=by unfold Hj.all;rw [AES]
def UO (x:α):L.all [x]=L.f x:=by simp [Hj.all]
def JX (Y:List α) (k j:Nat) (h:k<Y.length) (hj:j<L.n):(L.all Y)[k*L.n+j]?=(L.f (Y.getD k L.z))[j]?:=by
 induction Y generalizing k with
 | nil=>simp at h
 | cons x r ih=>
  have hx:=L.len x
  rw [Dc]
  cases k with
  | zero=>rw [ADl (by omega),AEy,ADs];rfl
  | succ k=>
   have e:(k+1)*L.n=k*L.n+L.n:=Nat.succ_mul k L.n
   rw [ADj (by omega),show (k+1)*L.n+j-(L.f x).length=k*L.n+j by omega,ih k (by simpa using h)]
   rfl
def B9 (L:Hj α) (w:World) (v:Value) (Y:List α):Prop:=
 (Y=[]/\∃ a cap,v=.slice a 0 cap)\/∃ b off cap,v=.slice (some ⟨b,off,none⟩) Y.length cap/\b<w.heap.size/\∀ i,i<Y.length->∀ j,j<L.n->w.cell? ⟨b,off+i*L.n+j,none⟩=(L.f (Y.getD i L.z))[j]?
def B9.shape {Y:List α} (h:B9 L w v Y):∃ a cap,v=.slice a Y.length cap:=by
 rcases h with ⟨rfl,a,cap,rfl⟩ | ⟨b,off,cap,rfl,_⟩
 ·exact ⟨a,cap,rfl⟩
 ·exact ⟨_,cap,rfl⟩
def Xs {a:Option Addr} {n cap:Nat} {Y:List α} (h:B9 L w (.slice a n cap) Y) (hk:k<Y.length):
 ∃ b off,a=some ⟨b,off,none⟩/\b<w.heap.size/\∀ j,j<L.n->w.cell? ⟨b,off+k*L.n+j,none⟩=(L.f (Y.getD k L.z))[j]?:=by
 rcases h with ⟨rfl,_⟩ | ⟨b,off,c,hv,hlt,hc⟩
 ·simp at hk
 ·simp only [Value.slice.injEq] at hv
  exact ⟨b,off,hv.1,hlt,λj hj=>hc k hk j hj⟩
def cU (w:World) (Y:List α) (t:TypeId) (n cap:Nat) (hn:n=Y.length):B9 L (w.alloc (.cells (L.all Y).toArray t)) (.slice (some ⟨w.heap.size,0,none⟩) n cap) Y:=by
 subst hn
 exact Or.inr ⟨_,0,cap,rfl,(AB.new w (L.all Y) t).lt,λi hi j hj=>by rw [ADs,(AB.new w (L.all Y) t).cell,JX Y i j hi hj]⟩
def Xu (Y:List α) (z:α) (h:k<Y.length):Y.take (k+1)=Y.take k++[Y.getD k z]:=by
 rw [AE3 h]
 simp [List.getD,h]
def cV (w:World) (t ts ty:TypeId) (i0:TypeInfo) (z:Value) (bytes:Nat) (ht:P.underlying ts=some (.slice t)) (hi:P.info? t=some i0) (hz0:i0.zero=some z) (hz1:i0.size=L.n) (hz2:i0.bytes=bytes) (hzs:z.cells.size=L.n) (hby:bytes<=1000)
 {Y:List α} (x:α) (o1:w.ownsRow 0 t L.n v Y.length (L.all Y)) (hl:Y.length+1<=3000):
 ∃ a2 c2 w2,(Builtin.append_ #[ts,ts] ty #[v,.slice (some ⟨w.heap.size,0,none⟩) 1 1]).run P (w.alloc (.cells (L.f x).toArray t))=.ok (.slice a2 (Y.length+1) c2) w2/\
  w2.ownsRow 0 t L.n (.slice a2 (Y.length+1) c2) (Y++[x]).length (L.all (Y++[x]))/\Fr w.heap.size v.ownBlock.toList w w2/\∀ g,(Value.slice a2 (Y.length+1) c2).ownBlock=some g->v.ownBlock=some g\/w.heap.size<=g:=by
 have hb:=(Below.refl w.heap.size w).alloc (ADW _) (.cells (L.f x).toArray t)
 have nb:AB (w.alloc (.cells (L.f x).toArray t)) w.heap.size (L.f x) t:=AB.new w _ _
 have o2:=Ep o1 (Fr.AE hb) λg e=>⟨Hi o1 e,by simp⟩
 obtain ⟨v',w2,hrun,r1,r2,r3⟩:=Li (P:=P) _ ts ty t i0 z L.n bytes ht hi hz0 hz1 hz2 hzs L.pos hby o2 ⟨w.heap.size,0,none⟩ 1 1 (L.f x) (by rw [L.len,Nat.one_mul]) (λj u hj=>by
  rw [Addr.add_lit,ADs,nb.cell]
  exact hj) (L.one x) hl
 obtain ⟨a2,c2,rfl⟩:=MI r1
 refine ⟨a2,c2,w2,hrun,?_,((Fr.AE hb).mono (ADW _) (λ_ _ _=>by simp)).grown r2 (by simp) (λk e=>Or.inr (by simp [e])),λg hg=>(r3 g hg).imp id (λq=>by simp at q;omega)⟩
 rw [UN,UO,ADa]
 exact r1
def Td {ops:Array Oper} {rest:List Oper} {o:Oper} {a:Act} {Q:Exit->Act->World->Prop} {u v':Value}
 (hg:o.guard=none) (s x:Operand) (t:TypeId) (hop:o.op=Op.call { callee:=Callee.builtin Builtin.append,args:=#[s,x],argTypes:=#[t,t] }) (hs:a.eval s=v) (hx:a.eval x=u)
 (hrun:(Builtin.append_ #[t,t] o.type #[v,u]).run P w=.ok v' w') (hK:wpList P ops Q rest (a.put o.dst v') w'):wpList P ops Q (o::rest) a w:=by
 refine wpList_plain hg λK hK'=>?_
 unfold Oper.wp
 simp [execOp,hop,resolve,invoke,builtin,hs,hx,hrun,Result.andThen]
 exact hK' _ _ hK
end
end Go.Proofs.YtdlhlfpigcgapaaGreatDoor
